/- Lines as items, and items as lines. -/
import Derived.Test.YtjfjhpakkflceaaDoorSoCmp
import Derived.Test.YtjfjhpakkflceaaDoorSoList
import Derived.Test.YtjfjhpakkflceaaDoorKyHeld
namespace Go.Proofs.YtjfjhpakkflceaaDoor.So
open Go.RowKit Go.Shelf Ky
open Pa (Tx)

attribute [local go_sem] Oper.semAt_some

theorem Tryd.infoItem : (Tryd.prog.info? 62).map (fun i => (i.zero, i.size, i.bytes)) = some (some (.agg #[.string ByteArray.empty, .string ByteArray.empty, .int .i64 0]), 3, 40) := by kernel_rfl
/-- a line as an item -/
def itf (o : Ky.Ord) (x : ByteArray) (i : Nat) : It := ⟨x, Ln.bt (key o x.data.toList), (i : Int)⟩
theorem itf_di (o : Ky.Ord) (x : ByteArray) (i : Nat) (h : x.size ≤ 1073741000) : DI (itf o x i) := ⟨by show x.size ≤ _; omega, Nat.le_trans (key_len o x.data.toList) (by show x.size ≤ _; omega)⟩
/-- the first k lines as items -/
def itTo (o : Ky.Ord) (A : Ls) (k : Nat) : List It := (List.range A.length).map fun i => if i < k then itf o (A.getD i ByteArray.empty) i else it0
def itemsL (o : Ky.Ord) (A : Ls) : List It := (List.range A.length).map fun i => itf o (A.getD i ByteArray.empty) i
theorem itTo_len (o : Ky.Ord) (A : Ls) (k : Nat) : (itTo o A k).length = A.length := by simp [itTo]
theorem itemsL_len (o : Ky.Ord) (A : Ls) : (itemsL o A).length = A.length := by simp [itemsL]
theorem itTo_zero (o : Ky.Ord) (A : Ls) : itTo o A 0 = List.replicate A.length it0 := by
  apply List.ext_getElem
  · simp [itTo]
  · intro i h1 h2; simp [itTo]
theorem itTo_all (o : Ky.Ord) (A : Ls) (k : Nat) (h : A.length ≤ k) : itTo o A k = itemsL o A := by
  apply List.ext_getElem
  · simp [itTo, itemsL]
  · intro i h1 h2
    have : i < A.length := by simpa [itTo] using h1
    simp [itTo, itemsL, show i < k by omega]
theorem itTo_step (o : Ky.Ord) (A : Ls) (k : Nat) : (itTo o A k).set k (itf o (A.getD k ByteArray.empty) k) = itTo o A (k + 1) := by
  apply List.ext_getElem
  · simp [itTo]
  · intro i h1 h2
    have hi : i < A.length := by simpa [itTo] using h2
    rw [List.getElem_set]
    by_cases e : k = i
    · subst e; simp [itTo]
    · rw [if_neg e]
      simp only [itTo, List.getElem_map, List.getElem_range]
      by_cases h3 : i < k
      · rw [if_pos h3, if_pos (by omega)]
      · rw [if_neg h3, if_neg (by omega)]
theorem itemsL_lines (o : Ky.Ord) (A : Ls) : (itemsL o A).map It.line = A := by
  apply List.ext_getElem
  · simp [itemsL]
  · intro i h1 h2
    simp [itemsL, itf, List.getElem?_eq_getElem h2]
theorem itemsL_mem (o : Ky.Ord) (A : Ls) (x : It) (h : x ∈ itemsL o A) : ∃ i, i < A.length ∧ x = itf o (A.getD i ByteArray.empty) i := by
  obtain ⟨i, hi, e⟩ := List.mem_map.1 h
  exact ⟨i, by simpa using hi, e.symm⟩
theorem its_zeros (n : Nat) : (madeCells #[.string ByteArray.empty, .string ByteArray.empty, .int .i64 0] (n * 3)).toList = its (List.replicate n it0) := by
  apply List.ext_getElem
  · simp [madeCells, its_len]
  · intro i h1 h2
    have hi : i < n * 3 := by simpa [madeCells] using h1
    have hq : i / 3 < (List.replicate n it0).length := by simp; omega
    obtain ⟨a1, a2, a3⟩ := its_at (List.replicate n it0) (i / 3) hq
    have e0 : (List.replicate n it0).getD (i / 3) it0 = it0 := by rw [getD_get _ _ hq]; simp
    rw [e0] at a1 a2 a3
    have em : (madeCells #[Value.string ByteArray.empty, .string ByteArray.empty, .int .i64 0] (n * 3)).toList[i] = (#[Value.string ByteArray.empty, .string ByteArray.empty, .int .i64 0])[i % 3]! := by simp [madeCells]
    rw [em]
    apply Option.some.inj
    rw [← List.getElem?_eq_getElem h2]
    rcases (show i % 3 = 0 ∨ i % 3 = 1 ∨ i % 3 = 2 by omega) with h | h | h
    · rw [h, show i = i / 3 * 3 by omega, a1]; rfl
    · rw [h, show i = i / 3 * 3 + 1 by omega, a2]; rfl
    · rw [h, show i = i / 3 * 3 + 2 by omega, a3]; rfl

set_option maxRecDepth 100000 in
set_option maxHeartbeats 400000 in
theorem itemOf_any (o : Ky.Ord) (x : ByteArray) (i : Nat) (w : World) (hx : x.size ≤ 1073741000) :
    Calls Tryd.prog 22 #[ov o, .string x, .int .i64 i] w fun e w' => e = .returned (ia (itf o x i)) ∧ Below w.heap.size w w' := by
  have C := hide (fun W => key_any o x W (by omega))
  have hI : Hid (ia (itf o x i) = .agg #[.string x, .string (Ln.bt (key o x.data.toList)), .int .i64 i]) := rfl
  rw [unhide hI]
  unfold ov at *
  generalize Ln.bt (key o x.data.toList) = y at *
  clear hI hx
  go_enter Tryd.func22, Tryd.ntmps22
  go_wp2_with fail
  refine (unhide C _).mono ?_
  rintro e w1 ⟨rfl, b1⟩
  have hB : Hid (Below w.heap.size w w1) := (((Below.refl w.heap.size w).alloc (Nat.le_refl _) _).alloc (by simp) _).trans (b1.mono (by simp; omega))
  have hN := heap_alloc_new (w.alloc (.cells #[.bool o.num, .bool o.fold, .bool o.bls, .bool o.rev, .int .i64 o.fr, .int .i64 o.«to», .int .u8 (o.sep.toNat : Int)] 23)) (.cells #[.string ⟨#[]⟩, .string ⟨#[]⟩, .int .i64 0] 62)
  rw [World.size_alloc] at hN
  have hA := (b1.block (w.heap.size + 1) (by simp)).trans hN
  have c0 : w1.cell? ⟨w.heap.size + 1, 0, none⟩ = some (.string ⟨#[]⟩) := cell_of_row _ _ 0 _ _ _ hA
  have c1 : w1.cell? ⟨w.heap.size + 1, 1, none⟩ = some (.string ⟨#[]⟩) := cell_of_row _ _ 1 _ _ _ hA
  have c2 : w1.cell? ⟨w.heap.size + 1, 2, none⟩ = some (.int .i64 0) := cell_of_row _ _ 2 _ _ _ hA
  have f0 : w1.frozen? ⟨w.heap.size + 1, 0, none⟩ = false := by simp [World.frozen?, hA]
  have f1 : w1.frozen? ⟨w.heap.size + 1, 1, none⟩ = false := by simp [World.frozen?, hA]
  have f2 : w1.frozen? ⟨w.heap.size + 1, 2, none⟩ = false := by simp [World.frozen?, hA]
  clear hN hA b1 C
  go_wp2_with fail
  refine bodyPost_ret (v := .agg #[.string x, .string y, .int .i64 i]) (by simp [results, Tryd.results22, go_sem, c0, c1, c2]) rfl ⟨rfl, ?_⟩
  repeat (first | exact unhide hB | apply Below.setCell | simp)

end Go.Proofs.YtjfjhpakkflceaaDoor.So
