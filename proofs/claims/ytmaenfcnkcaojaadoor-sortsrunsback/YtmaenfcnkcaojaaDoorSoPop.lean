/- What container/heap's up, Init, Pop and Push do to a heap that lies behind an interface. -/
import Derived.Test.YtmaenfcnkcaojaaDoorSoDown
namespace Go.Proofs.YtmaenfcnkcaojaaDoor.So
open Go.RowKit Go.Shelf Ky

attribute [local go_sem] Oper.semAt_some

set_option maxRecDepth 100000 in
set_option maxHeartbeats 2000000 in
theorem init_any {α : Type} {T : TypeId} {p : Addr} {S : World → List α → Prop} {c : α → α → Int} {d : α} (H : Pile T p S c d) (g : Ky.Good c) (l : List α) (w : World)
    (hS : S w l) (hl : l.length ≤ 65536) :
    Calls Tryd.prog 41 #[.iface T (.pointer (some p))] w fun e w' => e = .returned (.tuple #[]) ∧ Hid (∃ l', S w' l' ∧ l'.Perm l ∧ Hp c d l' 0 l'.length) := by
  obtain ⟨kl, ⟨ml, el⟩, cl⟩ := H.len
  have CL : Hid (∀ W, S W l → Calls Tryd.prog kl #[.pointer (some p)] W fun e w' => e = .returned (.int .i64 l.length) ∧ S w' l) := fun W h => cl W l h
  have CD : Hid (∀ (l' : List α) (i n : Nat) (W : World), S W l' → l'.length ≤ 65536 → n ≤ l'.length → i ≤ n → Hx c d l' i n i → Calls Tryd.prog 61 #[.iface T (.pointer (some p)), .int .i64 i, .int .i64 n] W fun e w' => ∃ v l'', e = .returned v ∧ S w' l'' ∧ l''.Perm l' ∧ Hp c d l'' i n ∧ l''.drop n = l'.drop n) := fun l' i n W a1 a2 a3 a4 a5 => down_any H g l' i n W a1 a2 a3 a4 a5
  have hS0 := hide hS
  clear cl hS H g
  obtain ⟨n, hn⟩ : ∃ n, n = l.length := ⟨_, rfl⟩
  obtain ⟨m, hm⟩ : ∃ m, m = n / 2 := ⟨_, rfl⟩
  have e1 : (n : Int).tdiv 2 = (m : Int) := by rw [hm]; rfl
  rw [← hn] at CL hl
  have hmb : m ≤ 65536 := by omega
  have HN := hide hn
  have HM := hide hm
  clear hn hm
  go_enter Tryd.func41, Tryd.ntmps41
  go_wp2_with fail
  refine (unhide CL _ (unhide hS0)).mono ?_
  rintro e w1 ⟨rfl, s1⟩
  have hS1 := hide s1
  clear s1 CL hS0
  go_wp2_with fail
  go_loopw [3] (fun i wr => ∃ (k : Nat) (l' : List α), k ≤ m ∧ i = .int .i64 ((k : Int) - 1) ∧ Hid (S wr l') ∧ Hid (l'.Perm l) ∧ Hid (Hp c d l' k n)) (fun i _ => (intOf i + 1).toNat)
  case atStart => exact ⟨m, l, Nat.le_refl _, rfl, hS1, .refl _, by rw [unhide HM]; exact hp_half c d l n⟩
  case round =>
    clear hS1
    obtain ⟨k, l', hkm, rfl, hS, hP, hH⟩ := hrel
    have hll : l'.length = n := by rw [(unhide hP).length_eq]; exact (unhide HN).symm
    by_cases hk : k = 0
    · subst hk
      have hE : Hid (Hp c d l' 0 l'.length) := by rw [hll]; exact hH
      clear hH
      go_wp2_with fail
      go_end0
      exact ⟨rfl, l', unhide hS, unhide hP, unhide hE⟩
    · obtain ⟨q, rfl⟩ : ∃ q, k = q + 1 := ⟨k - 1, by omega⟩
      have eq : (((q + 1 : Nat) : Int) - 1) = (q : Int) := by omega
      rw [eq]
      have hmn := unhide HM
      have CX : Hid (∀ W, S W l' → Calls Tryd.prog 61 #[.iface T (.pointer (some p)), .int .i64 q, .int .i64 n] W fun e w' => ∃ v l'', e = .returned v ∧ S w' l'' ∧ l''.Perm l' ∧ Hp c d l'' q n ∧ l''.drop n = l'.drop n) := fun W h => unhide CD l' q n W h (by omega) (by omega) (by omega) (hx_of c d l' q n (unhide hH))
      clear hmn hH eq hk
      go_wp2_with fail
      refine (unhide CX _ (unhide hS)).mono ?_
      rintro e w2 ⟨v, l2, rfl, s2, p2, h2, -⟩
      have hS2 := hide s2
      have hP2 := hide (p2.trans (unhide hP))
      have hH2 := hide h2
      clear s2 p2 h2 CX
      go_wp2_with fail
      go_roundw
      case rel => exact ⟨q, l2, by omega, by go_num, hS2, hP2, hH2⟩
      case measure => simp [intOf]

/-- the first one goes out, the rest is a heap -/
theorem pop_plain {α : Type} {c : α → α → Int} (d : α) (l l2 : List α) (m : Nat) (hm : m + 1 = l.length) (p2 : l2.Perm (swp d l 0 m)) (h2 : Hp c d l2 0 m) (d2 : l2.drop m = (swp d l 0 m).drop m) :
    l2.getD m d = l.getD 0 d ∧ (l.getD 0 d :: l2.take m).Perm l ∧ Hp c d (l2.take m) 0 (l2.take m).length := by
  have hl2 : l2.length = m + 1 := by rw [p2.length_eq, swp_len]; omega
  have e1 : l2.getD m d = l.getD 0 d := by
    have e := congrArg (fun x => x.getD 0 d) d2
    simp only [List.getD_eq_getElem?_getD, List.getElem?_drop, Nat.add_zero] at e
    have q := swp_at d l 0 m m (by omega) (by omega)
    rw [if_pos rfl, List.getD_eq_getElem?_getD] at q
    rw [List.getD_eq_getElem?_getD, e, q]
  refine ⟨e1, ?_, ?_⟩
  · have e3 : l2 = l2.take m ++ [l2.getD m d] := by
      conv => lhs; rw [← List.take_append_drop m l2]
      rw [List.drop_eq_getElem_cons (by omega : m < l2.length), List.drop_eq_nil_of_le (by omega), getD_get d l2 (by omega)]
    have q : (l2.getD m d :: l2.take m).Perm l2 := by
      conv => rhs; rw [e3]
      exact (List.perm_append_singleton _ _).symm
    rw [← e1]
    exact (q.trans p2).trans (swp_perm d l (by omega) (by omega))
  · rw [List.length_take, hl2, show min m (m + 1) = m by omega]
    exact hp_take c d l2 h2

set_option maxRecDepth 100000 in
set_option maxHeartbeats 2000000 in
theorem pop_any {α : Type} {T : TypeId} {p : Addr} {S : World → List α → Prop} {c : α → α → Int} {d : α} {iv : α → Value} (H : Pile T p S c d) (HO : PileOff T p S d iv) (g : Ky.Good c) (l : List α) (w : World)
    (hS : S w l) (hl : l.length ≤ 65536) (h0 : 0 < l.length) (hH : Hp c d l 0 l.length) :
    Calls Tryd.prog 43 #[.iface T (.pointer (some p))] w fun e w' => e = .returned (iv (l.getD 0 d)) ∧ Hid (∃ l', S w' l' ∧ (l.getD 0 d :: l').Perm l ∧ Hp c d l' 0 l'.length) := by
  obtain ⟨kl, ⟨ml, el⟩, cl⟩ := H.len
  obtain ⟨ks, ⟨ms, es⟩, cs⟩ := H.swap
  obtain ⟨kp, ⟨mp, ep⟩, cp⟩ := HO.pop
  obtain ⟨m, hm⟩ : ∃ m, m + 1 = l.length := ⟨l.length - 1, by omega⟩
  have em : (l.length : Int) - 1 = (m : Int) := by omega
  have CL : Hid (∀ W, S W l → Calls Tryd.prog kl #[.pointer (some p)] W fun e w' => e = .returned (.int .i64 l.length) ∧ S w' l) := fun W h => cl W l h
  have CW : Hid (∀ W, S W l → Calls Tryd.prog ks #[.pointer (some p), .int .i64 0, .int .i64 m] W fun e w' => e = .returned (.tuple #[]) ∧ S w' (swp d l 0 m)) := fun W h => cs W l 0 m h (by omega) (by omega)
  have CD : Hid (∀ (W : World), S W (swp d l 0 m) → Calls Tryd.prog 61 #[.iface T (.pointer (some p)), .int .i64 0, .int .i64 m] W fun e w' => ∃ v l'', e = .returned v ∧ S w' l'' ∧ l''.Perm (swp d l 0 m) ∧ Hp c d l'' 0 m ∧ l''.drop m = (swp d l 0 m).drop m) := fun W h => down_any H g (swp d l 0 m) 0 m W h (by rw [swp_len]; exact hl) (by rw [swp_len]; omega) (Nat.zero_le _) (hx_pop c d l m hm (by rw [hm]; exact hH))
  have CP : Hid (∀ (W : World) (l2 : List α), S W l2 → l2.length = m + 1 → Calls Tryd.prog kp #[.pointer (some p)] W fun e w' => e = .returned (iv (l2.getD m d)) ∧ S w' (l2.take m)) := fun W l2 h hl2 => by
    have q := cp W l2 h (by omega)
    rw [hl2, Nat.add_sub_cancel] at q
    exact q
  have hS0 := hide hS
  have HM := hide hm
  clear cl cs cp hS H HO g hH hm h0
  go_enter Tryd.func43, Tryd.ntmps43
  go_wp2_with fail
  refine (unhide CL _ (unhide hS0)).mono ?_
  rintro e w1 ⟨rfl, s1⟩
  have hS1 := hide s1
  clear s1 CL hS0
  go_wp2_with fail
  refine (unhide CW _ (unhide hS1)).mono ?_
  rintro e w2 ⟨rfl, s2⟩
  have hS2 := hide s2
  clear s2 CW hS1
  go_wp2_with fail
  refine (unhide CD _ (unhide hS2)).mono ?_
  rintro e w3 ⟨v, l2, rfl, s3, p3, h3, d3⟩
  have hS3 := hide s3
  have hl2 : Hid (l2.length = m + 1) := by show _ = _; rw [p3.length_eq, swp_len]; exact (unhide HM).symm
  have R := hide (pop_plain (c := c) d l l2 m (unhide HM) p3 h3 d3)
  clear s3 p3 h3 d3 CD hS2
  go_wp2_with fail
  refine (unhide CP _ l2 (unhide hS3) (unhide hl2)).mono ?_
  rintro e w4 ⟨rfl, s4⟩
  have hS4 := hide s4
  clear s4 CP hS3
  go_wp2_with fail
  go_ret
  exact ⟨by rw [← (unhide R).1]; rfl, l2.take m, unhide hS4, (unhide R).2⟩

end Go.Proofs.YtmaenfcnkcaojaaDoor.So
