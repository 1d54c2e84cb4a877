/- Lines as items, and items as lines. -/
import Derived.Test.YtmpppdbomdepoaaGreatDoorSoCmp
import Derived.Test.YtmpppdbomdepoaaGreatDoorSoList
import Derived.Test.YtmpppdbomdepoaaGreatDoorKyHeld
namespace Go.Proofs.YtmpppdbomdepoaaGreatDoor.So
open Go.RowKit Go.Shelf Ky
open Pa (Tx)

attribute [local go_sem] Oper.semAt_some

theorem Tryz.infoItem : (Tryz.prog.info? 66).map (fun i => (i.zero, i.size, i.bytes)) = some (some (.agg #[.string ByteArray.empty, .string ByteArray.empty, .int .i64 0]), 3, 40) := by kernel_rfl
/-- a line as an item -/
def itf (o : Ky.Ord) (x : ByteArray) (i : Nat) : It := ⟨x, Ln.bt (key o x.data.toList), (i : Int)⟩
theorem itf_di (o : Ky.Ord) (x : ByteArray) (i : Nat) (h : x.size ≤ 1073741000) : DI (itf o x i) := ⟨by show x.size ≤ _; omega, Nat.le_trans (key_len o x.data.toList) (by show x.size ≤ _; omega)⟩
/-- the first k lines as items -/
def itTo (o : Ky.Ord) (A : Ls) (k : Nat) : List It := (List.range A.length).map fun i => if i < k then itf o (A.getD i ByteArray.empty) i else it0
def itemsL (o : Ky.Ord) (A : Ls) : List It := (List.range A.length).map fun i => itf o (A.getD i ByteArray.empty) i
theorem itTo_len (o : Ky.Ord) (A : Ls) (k : Nat) : (itTo o A k).length = A.length := by simp [itTo]
theorem itemsL_len (o : Ky.Ord) (A : Ls) : (itemsL o A).length = A.length := by simp [itemsL]
theorem itTo_zero (o : Ky.Ord) (A : Ls) : itTo o A 0 = List.replicate A.length it0 := by
  apply List.ext_getElem
  · simp [itTo]
  · intro i h1 h2; simp [itTo]
theorem itTo_all (o : Ky.Ord) (A : Ls) (k : Nat) (h : A.length ≤ k) : itTo o A k = itemsL o A := by
  apply List.ext_getElem
  · simp [itTo, itemsL]
  · intro i h1 h2
    have : i < A.length := by simpa [itTo] using h1
    simp [itTo, itemsL, show i < k by omega]
theorem itTo_step (o : Ky.Ord) (A : Ls) (k : Nat) : (itTo o A k).set k (itf o (A.getD k ByteArray.empty) k) = itTo o A (k + 1) := by
  apply List.ext_getElem
  · simp [itTo]
  · intro i h1 h2
    have hi : i < A.length := by simpa [itTo] using h2
    rw [List.getElem_set]
    by_cases e : k = i
    · subst e; simp [itTo]
    · rw [if_neg e]
      simp only [itTo, List.getElem_map, List.getElem_range]
      by_cases h3 : i < k
      · rw [if_pos h3, if_pos (by omega)]
      · rw [if_neg h3, if_neg (by omega)]
theorem itemsL_lines (o : Ky.Ord) (A : Ls) : (itemsL o A).map It.line = A := by
  apply List.ext_getElem
  · simp [itemsL]
  · intro i h1 h2
    simp [itemsL, itf, List.getElem?_eq_getElem h2]
theorem itemsL_mem (o : Ky.Ord) (A : Ls) (x : It) (h : x ∈ itemsL o A) : ∃ i, i < A.length ∧ x = itf o (A.getD i ByteArray.empty) i := by
  obtain ⟨i, hi, e⟩ := List.mem_map.1 h
  exact ⟨i, by simpa using hi, e.symm⟩
theorem its_zeros (n : Nat) : (madeCells #[.string ByteArray.empty, .string ByteArray.empty, .int .i64 0] (n * 3)).toList = its (List.replicate n it0) := by
  apply List.ext_getElem
  · simp [madeCells, its_len]
  · intro i h1 h2
    have hi : i < n * 3 := by simpa [madeCells] using h1
    have hq : i / 3 < (List.replicate n it0).length := by simp; omega
    obtain ⟨a1, a2, a3⟩ := its_at (List.replicate n it0) (i / 3) hq
    have e0 : (List.replicate n it0).getD (i / 3) it0 = it0 := by rw [getD_get _ _ hq]; simp
    rw [e0] at a1 a2 a3
    have em : (madeCells #[Value.string ByteArray.empty, .string ByteArray.empty, .int .i64 0] (n * 3)).toList[i] = (#[Value.string ByteArray.empty, .string ByteArray.empty, .int .i64 0])[i % 3]! := by simp [madeCells]
    rw [em]
    apply Option.some.inj
    rw [← List.getElem?_eq_getElem h2]
    rcases (show i % 3 = 0 ∨ i % 3 = 1 ∨ i % 3 = 2 by omega) with h | h | h
    · rw [h, show i = i / 3 * 3 by omega, a1]; rfl
    · rw [h, show i = i / 3 * 3 + 1 by omega, a2]; rfl
    · rw [h, show i = i / 3 * 3 + 2 by omega, a3]; rfl

set_option maxRecDepth 100000 in
set_option maxHeartbeats 400000 in
theorem itemOf_any (o : Ky.Ord) (x : ByteArray) (i : Nat) (w : World) (hx : x.size ≤ 1073741000) :
    Calls Tryz.prog 77 #[ov o, .string x, .int .i64 i] w fun e w' => e = .returned (ia (itf o x i)) ∧ Below w.heap.size w w' := by
  have C := hide (fun W => key_any o x W (by omega))
  have hI : Hid (ia (itf o x i) = .agg #[.string x, .string (Ln.bt (key o x.data.toList)), .int .i64 i]) := rfl
  rw [unhide hI]
  unfold ov at *
  generalize Ln.bt (key o x.data.toList) = y at *
  clear hI hx
  go_enter Tryz.func77, Tryz.ntmps77
  go_wp2_with fail
  refine (unhide C _).mono ?_
  rintro e w1 ⟨rfl, b1⟩
  have hB : Hid (Below w.heap.size w w1) := (((Below.refl w.heap.size w).alloc (Nat.le_refl _) _).alloc (by simp) _).trans (b1.mono (by simp; omega))
  have hN := heap_alloc_new (w.alloc (.cells #[.bool o.num, .bool o.fold, .bool o.bls, .bool o.rev, .int .i64 o.fr, .int .i64 o.«to», .int .u8 (o.sep.toNat : Int)] 23)) (.cells #[.string ⟨#[]⟩, .string ⟨#[]⟩, .int .i64 0] 66)
  rw [World.size_alloc] at hN
  have hA := (b1.block (w.heap.size + 1) (by simp)).trans hN
  have c0 : w1.cell? ⟨w.heap.size + 1, 0, none⟩ = some (.string ⟨#[]⟩) := cell_of_row _ _ 0 _ _ _ hA
  have c1 : w1.cell? ⟨w.heap.size + 1, 1, none⟩ = some (.string ⟨#[]⟩) := cell_of_row _ _ 1 _ _ _ hA
  have c2 : w1.cell? ⟨w.heap.size + 1, 2, none⟩ = some (.int .i64 0) := cell_of_row _ _ 2 _ _ _ hA
  have f0 : w1.frozen? ⟨w.heap.size + 1, 0, none⟩ = false := by simp [World.frozen?, hA]
  have f1 : w1.frozen? ⟨w.heap.size + 1, 1, none⟩ = false := by simp [World.frozen?, hA]
  have f2 : w1.frozen? ⟨w.heap.size + 1, 2, none⟩ = false := by simp [World.frozen?, hA]
  clear hN hA b1 C
  go_wp2_with fail
  refine bodyPost_ret (v := .agg #[.string x, .string y, .int .i64 i]) (by simp [results, Tryz.results77, go_sem, c0, c1, c2]) rfl ⟨rfl, ?_⟩
  repeat (first | exact unhide hB | apply Below.setCell | simp)

set_option maxRecDepth 100000 in
set_option maxHeartbeats 400000 in
theorem itemsOf_any (o : Ky.Ord) (A : Ls) (a : Option Addr) (la ca : Nat) (w : World) (hT : Tx w a la ca A) (hl : la ≤ 65536) (hs : ∀ s ∈ A, s.size ≤ 1073741000) :
    Calls Tryz.prog 23 #[ov o, .slice a la ca] w fun e w' => ∃ g, e = .returned (.slice (some ⟨g, 0, none⟩) la la) ∧ Hid (Row3 g la w' (itemsL o A) ∧ w.heap.size ≤ g ∧ Below w.heap.size w w') := by
  obtain ⟨i0, hi, hz0, hz1, hz2⟩ := info_parts Tryz.infoItem
  have hlen := hT.len
  obtain ⟨oc, hoc⟩ : ∃ oc, oc = #[Value.bool o.num, .bool o.fold, .bool o.bls, .bool o.rev, .int .i64 o.fr, .int .i64 o.«to», .int .u8 (o.sep.toNat : Int)] := ⟨_, rfl⟩
  have H0 : Hid (Hd w o (w.alloc (.cells #[.bool o.num, .bool o.fold, .bool o.bls, .bool o.rev, .int .i64 o.fr, .int .i64 o.«to», .int .u8 (o.sep.toNat : Int)] 23))) := Hd.new w o
  have CI : Hid (∀ k, k < la → ∀ W, Calls Tryz.prog 77 #[.agg #[.bool o.num, .bool o.fold, .bool o.bls, .bool o.rev, .int .i64 o.fr, .int .i64 o.«to», .int .u8 (o.sep.toNat : Int)], .string (A.getD k ByteArray.empty), .int .i64 k] W fun e w' => e = .returned (ia (itf o (A.getD k ByteArray.empty) k)) ∧ Below W.heap.size W w') := fun k hk W => itemOf_any o _ k W (hs _ (mem_at (by omega)))
  have HT := hide hT
  have hse : Hid (la ≤ maxLen) := by unfold maxLen; show la ≤ _; omega
  clear hT hs hoc
  unfold ov
  go_enter Tryz.func23, Tryz.ntmps23
  go_wp2_with (at_make; refine wpList_make_full _ rfl _ _ 61 rfl (w.heap.size + 1) 66 i0 _ 3 Tryz.underlying61 hi hz0 hz1 _ _ _ _ la rfl rfl rfl rfl (by rw [hz2]; omega) (unhide hse) (by simp) ?_; intro w1 hown1 hgrow1)
  obtain ⟨G, hG⟩ : ∃ G, G = w.heap.size + 1 := ⟨_, rfl⟩
  have hR1 : Hid (Row3 G la w1 (itTo o A 0)) := by
    have q := hown1
    rw [show (Value.agg #[.string ByteArray.empty, .string ByteArray.empty, .int .i64 0]).cells = #[.string ByteArray.empty, .string ByteArray.empty, .int .i64 0] from rfl, its_zeros, World.size_alloc, ← hG] at q
    rcases q.2 with ⟨q1, _⟩ | ⟨g, c2, cur, q1, _, q2, _, _, q3, q4⟩
    · exact absurd q1 (by simp)
    · obtain ⟨rfl, rfl⟩ : G = g ∧ la = c2 := by simpa using q1
      refine ⟨cur, q2, q3, by rw [itTo_len, hlen]; exact Nat.le_refl _, ?_⟩
      rw [itTo_len, hlen, q4, itTo_zero, hlen]
  have H1 : Hid (Hd w o w1) := ⟨(hgrow1.block _ (by simp) (by simp)).trans (OR.new w o), (unhide H0).2.grown hgrow1 (unhide H0).2.size (by simp)⟩
  rw [← hG]
  have hGl : w.heap.size < G := by omega
  clear hown1 hgrow1 H0 hi hz0 hz1 hz2 hse hG
  go_loopw [13] (fun i wr => ∃ k : Nat, k ≤ la ∧ i = .int .i64 k ∧ Hid (Row3 G la wr (itTo o A k)) ∧ Hid (Hd w o wr)) (fun i _ => la - (intOf i).toNat)
  case atStart => exact ⟨0, Nat.zero_le _, rfl, hR1, H1⟩
  case round =>
    clear hR1 H1
    obtain ⟨k, hk, rfl, hR, hH⟩ := hrel
    by_cases hlt : k < la
    · obtain ⟨ga, ofa, rfl, hga, hce⟩ := tx_at ((unhide HT).below (unhide hH).2) hlt
      obtain ⟨q0, q1, q2, q3, q4, q5, q6⟩ := (unhide hH).1.cells
      have C := hide (unhide CI k hlt)
      have hst := hide (itTo_step o A k)
      have hGw := (unhide hR).lt
      generalize hx : A.getD k ByteArray.empty = x at *
      obtain ⟨y, hy⟩ : ∃ y, y = itf o x k := ⟨_, rfl⟩
      rw [← hy] at C hst
      obtain ⟨yl, yk, yp⟩ := y
      unfold ia at C
      simp only at C
      clear hy hx
      go_wp2_with fail
      refine (unhide C _).mono ?_
      rintro e w2 ⟨rfl, b2⟩
      have hR2 := hide ((unhide hR).keep (b2.block _ hGw))
      have hH2 := hide ((unhide hH).step b2)
      have hki : k < (itTo o A k).length := by rw [itTo_len, hlen]; exact hlt
      obtain ⟨c0, c1, c2⟩ := (unhide hR2).cells hki
      have f0 := (unhide hR2).frozen (k * 3)
      have f1 := (unhide hR2).frozen (k * 3 + 1)
      have f2 := (unhide hR2).frozen (k * 3 + 2)
      have hR3 := hide ((unhide hR2).set hki ⟨yl, yk, yp⟩)
      rw [unhide hst] at hR3
      simp only at hR3
      clear b2 hki C hst hce q0 q1 q2 q3 q4 q5 q6 hR hH hR2
      have hH3 : Hid (Hd w o (((w2.setCell ⟨G, k * 3, none⟩ (.string yl)).setCell ⟨G, k * 3 + 1, none⟩ (.string yk)).setCell ⟨G, k * 3 + 2, none⟩ (.int .i64 yp))) :=
        ⟨(Below.heap_setCell _ _ _ _ (by simp; omega)).trans ((Below.heap_setCell _ _ _ _ (by simp; omega)).trans ((Below.heap_setCell _ _ _ _ (by simp; omega)).trans (unhide hH2).1)),
         (((unhide hH2).2.setCell (p := ⟨G, _, none⟩) (by simp; omega) _).setCell (p := ⟨G, _, none⟩) (by simp; omega) _).setCell (p := ⟨G, _, none⟩) (by simp; omega) _⟩
      clear hH2
      go_wp2_with fail
      go_roundw
      case rel => exact ⟨k + 1, by omega, by go_num, hR3, hH3⟩
      case measure => simp [intOf]; omega
    · rw [itTo_all o A k (by omega)] at hR
      have hE : Hid (Row3 G la wr (itemsL o A) ∧ w.heap.size ≤ G ∧ Below w.heap.size w wr) := ⟨unhide hR, by omega, (unhide hH).2⟩
      clear hR hH
      go_wp2_with fail
      go_ret
      exact ⟨G, rfl, hE⟩
end Go.Proofs.YtmpppdbomdepoaaGreatDoor.So
