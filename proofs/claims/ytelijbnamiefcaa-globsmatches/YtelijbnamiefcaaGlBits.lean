/- Sets of places as bits: what newPlaces, add and has answer. -/
import Derived.Test.YtelijbnamiefcaaGlRead
namespace Go.Proofs.Ytelijbnamiefcaa.Gl
open Go.RowKit

abbrev Wd := BitVec 64
def uw (x : Wd) : Value := .int .u64 (x.toNat : Int)
def pv (m : Nat) (f : Nat → Wd) : Array Value := ((List.range m).map fun i => uw (f i)).toArray
theorem pv_size (m : Nat) (f : Nat → Wd) : (pv m f).size = m := by simp [pv]
theorem pv_get (m : Nat) (f : Nat → Wd) (i : Nat) (h : i < m) : (pv m f)[i]? = some (uw (f i)) := by simp [pv, h]
theorem pv_set (m : Nat) (f : Nat → Wd) (k : Nat) (x : Wd) : (pv m f).setIfInBounds k (uw x) = pv m (fun i => if i = k then x else f i) := by
  apply Array.ext_getElem?
  intro i
  by_cases hi : i < m
  · rw [pv_get _ _ i hi, Array.getElem?_setIfInBounds]
    by_cases h : k = i
    · rw [if_pos h, if_pos (by rw [pv_size]; omega), if_pos h.symm]
    · rw [if_neg h, pv_get m f i hi, if_neg (fun e => h e.symm)]
  · rw [Array.getElem?_eq_none (by rw [Array.size_setIfInBounds, pv_size]; omega), Array.getElem?_eq_none (by rw [pv_size]; omega)]
/-- block g is a row of words -/
def Pl (w : World) (g m : Nat) (f : Nat → Wd) : Prop := w.heap[g]? = some (.cells (pv m f) 72 (0, 0))
theorem Pl.cell {w : World} {g m : Nat} {f : Nat → Wd} (h : Pl w g m f) (i : Nat) (hi : i < m) : w.cell? ⟨g, i, none⟩ = some (.int .u64 ((f i).toNat : Int)) := by
  rw [cell_of_row _ _ _ _ _ _ h, pv_get _ _ _ hi]; rfl
theorem Pl.frozen {w : World} {g m : Nat} {f : Nat → Wd} (h : Pl w g m f) (i : Nat) : w.frozen? ⟨g, i, none⟩ = false := by
  unfold Pl at h
  simp [World.frozen?, h]
theorem Pl.lt {w : World} {g m : Nat} {f : Nat → Wd} (h : Pl w g m f) : g < w.heap.size := (Array.getElem?_eq_some_iff.1 h).1
theorem Pl.set {w : World} {g m : Nat} {f : Nat → Wd} (h : Pl w g m f) (k : Nat) (x : Wd) : Pl (w.setCell ⟨g, k, none⟩ (.int .u64 (x.toNat : Int))) g m (fun i => if i = k then x else f i) := by
  unfold Pl
  rw [heap_setCell_same _ _ _ _ _ _ h]
  show some (Obj.cells ((pv m f).setIfInBounds k (uw x)) 72 (0, 0)) = _
  rw [pv_set]
theorem Pl.other {w : World} {g m : Nat} {f : Nat → Wd} (h : Pl w g m f) (a : Addr) (v : Value) (hne : g ≠ a.block) : Pl (w.setCell a v) g m f := by
  unfold Pl
  rw [heap_setCell_other _ _ _ _ hne]; exact h
theorem Pl.below {w w' : World} {g m : Nat} {f : Nat → Wd} (h : Pl w g m f) (hb : Below w.heap.size w w') : Pl w' g m f := (hb.block g h.lt).trans h
theorem Pl.eq {w : World} {g m : Nat} {f f' : Nat → Wd} (h : Pl w g m f) (e : ∀ i, f i = f' i) : Pl w g m f' := by rw [← funext e]; exact h

def hasW (f : Nat → Wd) (n : Nat) : Bool := (f (n / 64)).getLsbD (n % 64)
def addW (f : Nat → Wd) (n : Nat) : Nat → Wd := fun i => if i = n / 64 then f (n / 64) ||| ((1 : Wd) <<< (n % 64)) else f i
theorem hasW_add (f : Nat → Wd) (n k : Nat) : hasW (addW f n) k = (hasW f k || decide (k = n)) := by
  unfold hasW addW
  by_cases h : k / 64 = n / 64
  · rw [if_pos h, BitVec.getLsbD_or, h]
    congr 1
    rw [BitVec.getLsbD_shiftLeft]
    have hk := Nat.mod_lt k (show 0 < 64 by decide)
    by_cases e : k = n
    · subst e
      simp [hk]
    · have : k % 64 ≠ n % 64 := by omega
      have h2 : (1#64).getLsbD (k % 64 - n % 64) = decide (k % 64 - n % 64 = 0) := by
        rw [BitVec.getLsbD_one]; simp
      rw [show (1 : Wd) = 1#64 from rfl]
      rw [h2]
      simp [e]
      omega
  · rw [if_neg h]
    have : k ≠ n := fun e => h (by rw [e])
    simp [this]
theorem wrap_u64 (x : Wd) : IntKind.u64.wrap (x.toNat : Int) = (x.toNat : Int) := by
  have := x.isLt
  simp only [IntKind.wrap, IntKind.signed, IntKind.bits]
  simp only [Bool.false_eq_true, if_false, Bool.false_and]
  omega
theorem bits_and (x y : Wd) : bits .and .u64 (x.toNat : Int) (y.toNat : Int) = ((x &&& y).toNat : Int) := by
  show IntKind.u64.wrap ((BitVec.ofInt 64 (x.toNat : Int) &&& BitVec.ofInt 64 (y.toNat : Int)).toNat : Int) = _
  rw [BitVec.ofInt_natCast, BitVec.ofInt_natCast, BitVec.ofNat_toNat, BitVec.ofNat_toNat, BitVec.setWidth_eq, BitVec.setWidth_eq]
  exact wrap_u64 _
theorem bits_or (x y : Wd) : bits .or .u64 (x.toNat : Int) (y.toNat : Int) = ((x ||| y).toNat : Int) := by
  show IntKind.u64.wrap ((BitVec.ofInt 64 (x.toNat : Int) ||| BitVec.ofInt 64 (y.toNat : Int)).toNat : Int) = _
  rw [BitVec.ofInt_natCast, BitVec.ofInt_natCast, BitVec.ofNat_toNat, BitVec.ofNat_toNat, BitVec.setWidth_eq, BitVec.setWidth_eq]
  exact wrap_u64 _
theorem shr_val (x : Wd) (k : Nat) : (x.toNat : Int) / 2 ^ k = ((x >>> k).toNat : Int) := by
  rw [BitVec.toNat_ushiftRight, Nat.shiftRight_eq_div_pow]
  push_cast
  rfl
theorem bit_val (x : Wd) (k : Nat) : (bits .and .u64 ((x.toNat : Int) / 2 ^ k) 1 == 1) = x.getLsbD k := by
  have h := bits_and (x >>> k) 1
  rw [← shr_val] at h
  have e : ((1 : Wd).toNat : Int) = 1 := rfl
  rw [e] at h
  rw [h]
  have h1 : (x >>> k &&& 1).toNat = (x.toNat >>> k) % 2 := by
    rw [BitVec.toNat_and, BitVec.toNat_ushiftRight]
    exact Nat.and_one_is_mod _
  rw [h1]
  have h2 : x.getLsbD k = decide ((x.toNat >>> k) % 2 = 1) := by
    rw [BitVec.getLsbD, Nat.testBit, Nat.one_and_eq_mod_two]
    have := Nat.mod_two_eq_zero_or_one (x.toNat >>> k)
    rcases this with h | h <;> simp [h]
  rw [h2, Bool.eq_iff_iff]
  generalize x.toNat >>> k = a
  simp
  omega
theorem shl_one (k : Nat) (hk : k < 64) : (2 ^ k : Int) = (((1 : Wd) <<< k).toNat : Int) := by
  rw [BitVec.toNat_shiftLeft, Nat.shiftLeft_eq]
  have h1 : (1 : Wd).toNat = 1 := rfl
  have h2 : 2 ^ k < 2 ^ 64 := Nat.pow_lt_pow_right (by decide) hk
  rw [h1, Nat.one_mul, Nat.mod_eq_of_lt h2]
  push_cast
  rfl
set_option maxHeartbeats 400000 in
set_option maxRecDepth 100000 in
theorem has_any (g m n : Nat) (f : Nat → Wd) (w : World) (hP : Pl w g m f) (hn : n < 64 * m) (hm : m ≤ 1000) :
    Calls Try.prog 22 #[.slice (some ⟨g, 0, none⟩) m m, .int .i64 n] w fun e w' => e = .returned (.bool (hasW f n)) ∧ w' = w := by
  have hd : n / 64 < m := by omega
  have hc := hP.cell (n / 64) hd
  clear hP
  go_enter Try.func22, Try.ntmps22
  go_wp2
  go_ret
  exact ⟨congrArg (fun b => Ending.returned (.bool b)) (bit_val _ _), rfl⟩
set_option maxHeartbeats 400000 in
set_option maxRecDepth 100000 in
theorem add_any (g m n : Nat) (f : Nat → Wd) (w : World) (hP : Pl w g m f) (hn : n < 64 * m) (hm : m ≤ 1000) :
    Calls Try.prog 32 #[.slice (some ⟨g, 0, none⟩) m m, .int .i64 n] w fun e w' => e = .returned (.tuple #[]) ∧ ∃ x, w' = (w.setCell ⟨g, n / 64, none⟩ x).drew ∧ Pl w' g m (addW f n) := by
  have hd : n / 64 < m := by omega
  have hc := hP.cell (n / 64) hd
  have hfz := hP.frozen (n / 64)
  have HP := hide hP
  clear hP
  go_enter Try.func32, Try.ntmps32
  go_wp2
  go_region
  go_end0
  refine ⟨rfl, _, rfl, ?_⟩
  have h1 : bits .or .u64 ((f (n / 64)).toNat : Int) (IntKind.u64.wrap (2 ^ (n % 64))) = ((f (n / 64) ||| ((1 : Wd) <<< (n % 64))).toNat : Int) := by
    rw [shl_one (n % 64) (by omega), wrap_u64, bits_or]
  rw [h1]
  exact (unhide HP).set (n / 64) _
/-- how many words n places take -/
def wordsN (n : Nat) : Nat := (n + 63) / 64
theorem Try.infoU64 : (Try.prog.info? 72).map (fun i => (i.zero, i.size, i.bytes)) = some (some (.int .u64 0), 1, 8) := by kernel_rfl
theorem pl_zero (m : Nat) : List.replicate m (.int .u64 0) = (pv m (fun _ => 0)).toList := by
  unfold pv
  apply List.ext_getElem?
  intro i
  by_cases hi : i < m
  · simp [hi, uw]
  · simp [hi]
theorem pl_of_own {w : World} {B g m : Nat} {f : Nat → Wd} (h : w.ownsRow B 72 1 (.slice (some ⟨g, 0, none⟩) m m) m (pv m f).toList) : Pl w g m f := by
  rcases h.2 with ⟨h1, _⟩ | ⟨g', cap, cur, hv, _, hg, _, _, h3, h4⟩
  · cases h1
  · simp at hv
    obtain ⟨rfl, rfl⟩ := hv
    rw [List.take_of_length_le (by rw [Array.length_toList, h3]; exact Nat.le_refl _)] at h4
    have : cur = pv m f := Array.toList_inj.1 h4
    rw [this] at hg
    exact hg
theorem below_of_grown {w w' : World} (h : w.grownBy w' none) : Below w.heap.size w w' := (Below.refl _ _).grown h (Nat.le_refl _) (by simp)
set_option maxHeartbeats 400000 in
set_option maxRecDepth 100000 in
theorem newPlaces_any (n : Nat) (w : World) (hn : n ≤ 60000) (h0 : 1 ≤ n) :
    Calls Try.prog 31 #[.int .i64 n] w fun e w' => e = .returned (.slice (some ⟨w.heap.size, 0, none⟩) (wordsN n) (wordsN n)) ∧ Pl w' w.heap.size (wordsN n) (fun _ => 0) ∧ Below w.heap.size w w' := by
  obtain ⟨i0, hi, hz0, hz1, hz2⟩ := info_parts Try.infoU64
  have hw : 1 ≤ wordsN n := by unfold wordsN; omega
  have hw2 : wordsN n ≤ 1000 := by unfold wordsN; omega
  have hq : ((n : Int) + 63) / 64 = (wordsN n : Int) := by unfold wordsN; omega
  generalize wordsN n = m at *
  go_enter Try.func31, Try.ntmps31
  have hml : m ≤ maxLen := by unfold maxLen; omega
  go_wp2_with (at_make; refine wpList_make_full _ rfl _ _ 39 rfl w.heap.size 72 i0 _ 1 Try.underlying39 hi hz0 hz1 _ _ _ _ m rfl rfl hq hq (by rw [hz2]; omega) hml (Nat.le_refl _) ?_; intro w3 hown3 hgrow3)
  have hP : Hid (Pl w3 w.heap.size m (fun _ => 0)) := by
    refine pl_of_own (B := w.heap.size) ?_
    have := hown3
    rw [Nat.mul_one, show (Value.int .u64 0).cells = #[.int .u64 0] from rfl, toList_madeCells_one] at this
    rw [← pl_zero]
    exact this
  have hB := hide (below_of_grown hgrow3)
  clear hown3 hgrow3
  go_wp2_with fail
  go_ret
  exact ⟨rfl, unhide hP, unhide hB⟩
end Go.Proofs.Ytelijbnamiefcaa.Gl
