/- Items in order, by a heap. -/
import Derived.Test.YtmpppdbomdepoaaGreatDoorSoOrder
import Derived.Test.YtmpppdbomdepoaaGreatDoorSoItem
namespace Go.Proofs.YtmpppdbomdepoaaGreatDoor.So
open Go.RowKit Go.Shelf Ky
open Pa (Tx)

attribute [local go_sem] Oper.semAt_some

theorem own_keep {w w' : World} {base : Nat} {e : TypeId} {size : Nat} {v : Value} {n : Nat} {xs : List Value} (h : w.ownsRow base e size v n xs) (hb : ∀ k, v.ownBlock = some k → w'.heap[k]? = w.heap[k]?) : w'.ownsRow base e size v n xs := by
  refine ⟨h.1, ?_⟩
  rcases h.2 with hn | ⟨g, cap, cur, hv, h1, h2, h3⟩
  · exact .inl hn
  · exact .inr ⟨g, cap, cur, hv, h1, (hb g (by rw [hv]; rfl)).trans h2, h3⟩
theorem row3_own {w : World} {g cap base : Nat} {L : List It} (h : w.ownsRow base 66 3 (.slice (some ⟨g, 0, none⟩) L.length cap) L.length (its L)) : Row3 g cap w L := by
  rcases h.2 with ⟨q1, _⟩ | ⟨g', c2, cur, q1, _, q2, q5, _, q3, q4⟩
  · exact absurd q1 (by simp)
  · obtain ⟨rfl, rfl⟩ : g = g' ∧ cap = c2 := by simpa using q1
    exact ⟨cur, q2, q3, q5, q4⟩
theorem three_new (w : World) (x y z : Value) (e : TypeId) : ∀ j u, [x, y, z][j]? = some u → (w.alloc (.cells #[x, y, z] e)).cell? ((⟨w.heap.size, 0, none⟩ : Addr).add j) = some u := by
  intro j u hj
  match j, hj with
  | 0, hj => simp at hj; subst hj; simp [Addr.add]
  | 1, hj => simp at hj; subst hj; simp [Addr.add]
  | 2, hj => simp at hj; subst hj; simp [Addr.add]
theorem three_one (a b : ByteArray) (c : Int) : ∀ u ∈ [Value.string a, .string b, .int .i64 c], u.oneCell' = true := by
  intro u hu; simp at hu; rcases hu with rfl | rfl | rfl <;> rfl

/-- half way: S is in order, the heap holds the rest, none of which comes ahead of those in S -/
def Half (c : It → It → Int) (L S T : List It) : Prop := (S ++ T).Perm L ∧ InO c S ∧ (∀ x ∈ S, ∀ y ∈ T, c x y ≤ 0) ∧ Hp c it0 T 0 T.length
theorem Half.step {c : It → It → Int} (g : Ky.Good c) {L S T T' : List It} (h : Half c L S T) (h0 : 0 < T.length) (hp : (T.getD 0 it0 :: T').Perm T) (hh : Hp c it0 T' 0 T'.length) : Half c L (S ++ [T.getD 0 it0]) T' := by
  obtain ⟨h1, h2, h3, h4⟩ := h
  refine ⟨?_, ?_, ?_, hh⟩
  · rw [List.append_assoc]
    exact ((List.Perm.append_left S hp)).trans h1
  · unfold InO
    rw [List.pairwise_append]
    refine ⟨h2, List.pairwise_singleton _ _, fun x hx y hy => ?_⟩
    obtain rfl := List.mem_singleton.1 hy
    exact h3 x hx _ (it_mem h0)
  · intro x hx y hy
    have hyT : y ∈ T := hp.subset (List.mem_cons_of_mem _ hy)
    rcases List.mem_append.1 hx with hx | hx
    · exact h3 x hx y hyT
    · obtain rfl := List.mem_singleton.1 hx
      obtain ⟨i, hi, rfl⟩ := List.mem_iff_getElem.1 hyT
      have := hp_top g it0 T T.length h4 i hi
      rwa [getD_get it0 T hi] at this

theorem Tryz.assertItem (v : Value) (w : World) : (Instr.typeAssert (.iface 66 v) 20 66 false).run Tryz.prog w = .ok v w := by kernel_rfl
set_option maxRecDepth 100000 in
set_option maxHeartbeats 800000 in
theorem inOrder_any (L : List It) (g cap : Nat) (f : Value) (c : It → It → Int) (w : World) (hG : Ky.Good c) (hC : Cmp w (fun k => k = g) f c DI) (hR : Row3 g cap w L) (hl : L.length ≤ 65536) (hD : ∀ x ∈ L, DI x) :
    Calls Tryz.prog 72 #[.slice (some ⟨g, 0, none⟩) L.length cap, f] w fun e w' => ∃ g' cap', e = .returned (.slice (some ⟨g', 0, none⟩) L.length cap') ∧ Hid (∃ S, Row3 g' cap' w' S ∧ S.Perm L ∧ InO c S ∧ w.heap.size ≤ g' ∧ Kp (fun k => k = g) w w') := by
  obtain ⟨i0, hi, hz0, hz1, hz2⟩ := info_parts Tryz.infoItem
  have hse : Hid (L.length ≤ maxLen) := by unfold maxLen; show L.length ≤ _; omega
  have hta := Tryz.assertItem
  have hgl := hR.lt
  obtain ⟨P, hP⟩ : ∃ P, P = w.heap.size := ⟨_, rfl⟩
  have hgP : g ≠ P := by omega
  have HPile : Hid (∀ W1, Kp (fun k => k = g) w W1 → Pile 168 ⟨P, 0, none⟩ (fun w l => Sx W1 g cap P f DI w l ∧ l.length ≤ 65536) c it0 ∧ PileOff 168 ⟨P, 0, none⟩ (fun w l => Sx W1 g cap P f DI w l ∧ l.length ≤ 65536) it0 (fun x => .iface 66 (ia x))) := fun W1 h1 =>
    pile1 W1 g cap P f c DI hC (fun W h2 => h1.trans h2 (fun _ _ q => q) (fun i hi q => q.elim id (fun e => by omega))) hgP
  have CI : Hid (∀ W1 l, Kp (fun k => k = g) w W1 → Sx W1 g cap P f DI W1 l → l.length ≤ 65536 → Calls Tryz.prog 115 #[.iface 168 (.pointer (some ⟨P, 0, none⟩))] W1 fun e w' => e = .returned (.tuple #[]) ∧ Hid (∃ l', (Sx W1 g cap P f DI w' l' ∧ l'.length ≤ 65536) ∧ l'.Perm l ∧ Hp c it0 l' 0 l'.length)) := fun W1 l a1 a2 a3 => init_any (unhide HPile W1 a1).1 hG l W1 ⟨a2, a3⟩ a3
  have CP : Hid (∀ W1 l, Kp (fun k => k = g) w W1 → Sx W1 g cap P f DI W1 l → l.length ≤ 65536 → 0 < l.length → Hp c it0 l 0 l.length → Calls Tryz.prog 81 #[.iface 168 (.pointer (some ⟨P, 0, none⟩))] W1 fun e w' => e = .returned (.iface 66 (ia (l.getD 0 it0))) ∧ Hid (∃ l', (Sx W1 g cap P f DI w' l' ∧ l'.length ≤ 65536) ∧ (l.getD 0 it0 :: l').Perm l ∧ Hp c it0 l' 0 l'.length)) := fun W1 l a1 a2 a3 a4 a5 => pop_any (unhide HPile W1 a1).1 (unhide HPile W1 a1).2 hG l W1 ⟨a2, a3⟩ a3 a4 a5
  have HG := hide hG
  have hPn := heap_alloc_new w (.cells #[.slice (some ⟨g, 0, none⟩) L.length cap, f] 170)
  rw [← hP] at hPn
  have hS0 : Hid (Sx (w.alloc (.cells #[.slice (some ⟨g, 0, none⟩) L.length cap, f] 170)) g cap P f DI (w.alloc (.cells #[.slice (some ⟨g, 0, none⟩) L.length cap, f] 170)) L) :=
    ⟨⟨hPn, hR.keep (Below.heap_alloc _ _ _ hgl)⟩, hD, Kp.refl _ _⟩
  have hK0 : Hid (Kp (fun k => k = g) w (w.alloc (.cells #[.slice (some ⟨g, 0, none⟩) L.length cap, f] 170))) := (Kp.refl _ _).alloc _
  have hfc : ∃ id cp, f = .func (.func id) #[] cp := by obtain ⟨id, cp, e, _⟩ := hC; exact ⟨id, cp, e⟩
  obtain ⟨id, cp, rfl⟩ := hfc
  clear hC hR hD HPile hG hPn
  go_enter Tryz.func72, Tryz.ntmps72
  go_wp2_with fail
  rw [← hP]
  have HP := hide hP
  clear hP
  refine (unhide CI _ L (unhide hK0) (unhide hS0) hl).mono ?_
  rintro e w1 ⟨rfl, q1⟩
  obtain ⟨T, ⟨s1, n1⟩, p1, h1⟩ := unhide q1
  have hK1 : Hid (Kp (fun k => k = g) w w1) := (unhide hK0).trans s1.2.2 (fun _ _ q => q) (fun i hi q => q.elim (fun e => e) (fun e => by have := unhide HP; omega))
  have hPl1 := hide s1.1
  have hD1 := hide s1.2.1
  have hH1 : Hid (Half c L [] T) := ⟨p1, .nil, by simp, h1⟩
  have hPw : P < w1.heap.size := (Array.getElem?_eq_some_iff.1 s1.1.pile).1
  have hgw : g < w1.heap.size := s1.1.row.lt
  clear q1 s1 p1 h1 CI hK0 hS0
  go_wp2_with (at_make; refine wpList_make_own _ rfl _ _ 61 rfl w1.heap.size 66 i0 _ 3 Tryz.underlying61 hi hz0 hz1 _ _ _ L.length rfl rfl rfl (by rw [hz2]; omega) (unhide hse) (Nat.le_refl _) ?_; intro w2 hown2 hgrow2)
  have hb2 : Below w1.heap.size w1 w2 := (Below.refl _ _).grown hgrow2 (Nat.le_refl _) (by simp)
  have hO2 : Hid (w2.ownsRow w1.heap.size 66 3 (.slice (some ⟨w1.heap.size, 0, none⟩) 0 L.length) ([] : List It).length (its [])) := hown2
  have hK2 := hide ((unhide hK1).step hb2)
  have hPl2 := hide ((unhide hPl1).keep hb2)
  have hz2' : w1.heap.size ≤ w2.heap.size := hb2.size
  clear hown2 hgrow2 hb2 hK1 hPl1 hse
  go_loopg [6] T.length (fun n v wr => ∃ (S T' : List It), T'.length = n ∧ S.length + n = L.length ∧ Hid (wr.ownsRow w1.heap.size 66 3 v S.length (its S)) ∧ Hid (∃ a k, v = .slice (some a) S.length k) ∧ Hid (Half c L S T') ∧ Hid (∀ x ∈ T', DI x) ∧ Hid (Pl g cap P (.func (.func id) #[] cp) wr T') ∧ Hid (Kp (fun k => k = g) w wr) ∧ w1.heap.size ≤ wr.heap.size)
  case atStart => exact ⟨[], T, rfl, by have := (unhide hH1).1.length_eq; simpa using this, hO2, ⟨_, _, rfl⟩, hH1, hD1, hPl2, hK2, hz2'⟩
  case round =>
    clear hH1 hD1 hPl2 hK2 hz2' hO2 n1
    obtain ⟨S, T', hn, hSL, hO, hsl, hH, hD, hPl, hK, hz⟩ := hrel
    obtain ⟨aS, kS, rfl⟩ := unhide hsl
    have hSx : Hid (Sx wr g cap P (.func (.func id) #[] cp) DI wr T') := ⟨unhide hPl, unhide hD, Kp.refl _ _⟩
    have hT' : T'.length ≤ 65536 := by omega
    have CL := hide (len1_any wr g cap P (.func (.func id) #[] cp) DI wr T' (unhide hSx))
    have KEEP : ∀ W W', W.ownsRow w1.heap.size 66 3 (.slice (some aS) S.length kS) S.length (its S) → Kp (fun k => k = g ∨ k = P) W W' → W'.ownsRow w1.heap.size 66 3 (.slice (some aS) S.length kS) S.length (its S) := fun W W' a1 a2 => own_keep a1 (fun k hk => by
      have hk2 := a1.lt k hk
      exact a2.block k hk2.2 (fun q => by rcases q with q | q <;> omega))
    have KK : ∀ W W', Kp (fun k => k = g) w W → Kp (fun k => k = g ∨ k = P) W W' → Kp (fun k => k = g) w W' := fun W W' a1 a2 => a1.trans a2 (fun _ _ q => q) (fun i hi q => q.elim (fun e => e) (fun e => by have := unhide HP; omega))
    by_cases h0 : T'.length = 0
    · have hE : Hid (∀ w', Sx wr g cap P (.func (.func id) #[] cp) DI w' T' → ∃ g' cap', Value.slice (some aS) S.length kS = .slice (some ⟨g', 0, none⟩) L.length cap' ∧ Hid (∃ S, Row3 g' cap' w' S ∧ S.Perm L ∧ InO c S ∧ w.heap.size ≤ g' ∧ Kp (fun k => k = g) w w')) := fun w' hs => by
        have hO' := KEEP wr w' (unhide hO) hs.2.2
        have eT : T' = [] := List.eq_nil_of_length_eq_zero h0
        have hHf := unhide hH
        rw [eT] at hHf
        rcases hO'.2 with ⟨q1, _⟩ | ⟨g', c2, cur, q1, qb, _⟩
        · exact absurd q1 (by simp)
        · obtain ⟨rfl, rfl⟩ : aS = ⟨g', 0, none⟩ ∧ kS = c2 := by simpa using q1
          refine ⟨g', kS, by rw [show S.length = L.length by omega], S, row3_own hO', by simpa using hHf.1, hHf.2.1, by have := unhide HP; omega, KK wr w' (unhide hK) hs.2.2⟩
      rw [h0] at CL
      clear KEEP KK hO hH hD hPl hK hSx hsl h0 hn CP
      go_wp2_with fail
      refine (unhide CL).mono ?_
      rintro e w3 ⟨rfl, s3⟩
      have hE3 := hide (unhide hE w3 s3)
      clear s3 hE CL
      go_wp2_with fail
      go_ret
      obtain ⟨g', c', e1, e2⟩ := unhide hE3
      exact ⟨g', c', by rw [← e1]; rfl, e2⟩
    · have h0' : (0 : Int) < (T'.length : Int) := by omega
      have h0'' : 0 < T'.length := by omega
      have HKEEP := hide KEEP
      have HKK := hide KK
      clear KEEP KK hPl hSx
      go_wp2_with fail
      refine (unhide CL).mono ?_
      rintro e w3 ⟨rfl, s3⟩
      have hO3 := hide (unhide HKEEP wr w3 (unhide hO) s3.2.2)
      have hK3 := hide (unhide HKK wr w3 (unhide hK) s3.2.2)
      have hz3 : w1.heap.size ≤ w3.heap.size := Nat.le_trans hz s3.2.2.size
      have hC3 := hide (unhide CP w3 T' (unhide hK3) ⟨s3.1, s3.2.1, Kp.refl _ _⟩ hT' h0'' (unhide hH).2.2.2)
      obtain ⟨x, hx⟩ : ∃ x, x = T'.getD 0 it0 := ⟨_, rfl⟩
      rw [← hx] at hC3
      have HX := hide hx
      obtain ⟨xl, xk, xp⟩ := x
      unfold ia at hC3
      simp only at hC3
      clear s3 CL hO hK hx
      go_wp2_with fail
      refine (unhide hC3).mono ?_
      rintro e w4 ⟨rfl, q4⟩
      obtain ⟨T4, ⟨s4, n4⟩, p4, h4⟩ := unhide q4
      have hO4 := hide (unhide HKEEP w3 w4 (unhide hO3) s4.2.2)
      have hK4 := hide (unhide HKK w3 w4 (unhide hK3) s4.2.2)
      have hz4 : w1.heap.size ≤ w4.heap.size := Nat.le_trans hz3 s4.2.2.size
      have hPl4 := hide s4.1
      have hD4 := hide s4.2.1
      rw [unhide HX] at p4
      have hl4 : T4.length + 1 = T'.length := by have := p4.length_eq; simpa using this
      have hH4 := hide ((unhide hH).step (unhide HG) h0'' p4 h4)
      rw [← unhide HX] at hH4
      clear q4 s4 p4 h4 hC3 hO3 hK3 hH hD n4
      go_wp2_with (at_builtin; refine wpList_append_own _ rfl _ _ 61 rfl w1.heap.size 66 i0 _ 3 40 Tryz.underlying61 hi hz0 hz1 hz2 rfl (by decide) _ _ _ rfl ((unhide hO4).alloc _) ⟨w4.heap.size, 0, none⟩ 1 1 [.string xl, .string xk, .int .i64 xp] rfl rfl (three_new _ _ _ _ _) (three_one _ _ _) (by unfold maxLen; omega) (by omega) (by simp; omega) ?_)
      intro v5 w5 hO5 hg5 hs5
      have hrow : ∀ k, (Value.slice (some aS) S.length kS).ownBlock = some k → w1.heap.size ≤ k := fun k hk => ((unhide hO4).lt k hk).1
      have hblk : ∀ k, k < w1.heap.size → w5.heap[k]? = w4.heap[k]? := fun k hk => (hg5.block k (by simp; omega) (fun e => by have := hrow k e.symm; omega)).trans (Below.heap_alloc _ _ _ (by omega))
      have hPl5 : Hid (Pl g cap P (.func (.func id) #[] cp) w5 T4) := ⟨(hblk P hPw).trans (unhide hPl4).pile, (unhide hPl4).row.keep (hblk g hgw)⟩
      have hww : w.heap.size ≤ w1.heap.size := by have := unhide HP; omega
      have hK5 : Hid (Kp (fun k => k = g) w w5) := ⟨hg5.os.trans (unhide hK4).os, hg5.tape.trans (unhide hK4).tape, hg5.output.trans (unhide hK4).output, Nat.le_trans (unhide hK4).size (Nat.le_trans (by simp) hg5.size), fun k hk hn => (hblk k (by omega)).trans ((unhide hK4).block k hk hn)⟩
      have hz5 : w1.heap.size ≤ w5.heap.size := Nat.le_trans hz4 (Nat.le_trans (by simp) hg5.size)
      have hO6 : Hid (w5.ownsRow w1.heap.size 66 3 v5 (S ++ [(⟨xl, xk, xp⟩ : It)]).length (its (S ++ [⟨xl, xk, xp⟩]))) := by
        show w5.ownsRow _ _ _ _ _ _
        rw [its_app, List.length_append]
        exact hO5
      have hv5 : Hid (∃ a k, v5 = .slice (some a) (S ++ [(⟨xl, xk, xp⟩ : It)]).length k) := by
        rcases hO5.2 with ⟨q, _⟩ | ⟨g', c2, cur, q, _⟩
        · exact absurd q hs5
        · exact ⟨_, _, by rw [q, List.length_append]; rfl⟩
      obtain ⟨a5, k5, rfl⟩ := unhide hv5
      clear hrow hblk hg5 hO5 hs5 hO4 hK4 hPl4 hww
      go_wp2_with fail
      go_roundg T4.length
      case measure => omega
      case rel => exact ⟨S ++ [⟨xl, xk, xp⟩], T4, rfl, by rw [List.length_append]; simp; omega, hO6, hv5, hH4, hD4, hPl5, hK5, hz5⟩
end Go.Proofs.YtmpppdbomdepoaaGreatDoor.So
