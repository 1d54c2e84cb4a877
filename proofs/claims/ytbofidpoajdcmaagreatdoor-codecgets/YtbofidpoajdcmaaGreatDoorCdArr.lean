/- Arrays of 256. -/
import Derived.Test.YtbofidpoajdcmaaGreatDoorCuBase
import Derived.Deep.WholeRow
import Derived.Laws.ResultCell
import Derived.Laws.CopyOwn
namespace Go.Proofs.YtbofidpoajdcmaaGreatDoor.Cd
open Go.RowKit Cu

/-- k bytes from n on -/
def span : Nat → Nat → Bs
  | _, 0 => []
  | n, k + 1 => UInt8.ofNat n :: span (n + 1) k
theorem span_length (n k : Nat) : (span n k).length = k := by
  induction k generalizing n with
  | zero => rfl
  | succ k ih => simp [span, ih]
theorem span_get (n k i : Nat) (h : i < k) : (span n k)[i]? = some (UInt8.ofNat (n + i)) := by
  induction k generalizing n i with
  | zero => omega
  | succ k ih =>
    cases i with
    | zero => simp [span]
    | succ i => simp only [span, List.getElem?_cons_succ]; rw [ih (n + 1) i (by omega)]; congr 2; omega
def bytes : Bs := span 0 256
theorem bytes_length : bytes.length = 256 := span_length _ _
/-- an array of 256, by its bytes -/
def tab (f : UInt8 → Value) : Array Value := (bytes.map f).toArray
theorem tab_size (f : UInt8 → Value) : (tab f).size = 256 := by simp [tab, bytes_length]
theorem bytes_get (i : Nat) (h : i < 256) : bytes[i]? = some (UInt8.ofNat i) := by
  rw [show bytes = span 0 256 from rfl, span_get 0 256 i h, Nat.zero_add]
theorem tab_get (f : UInt8 → Value) (i : Nat) (h : i < 256) : (tab f)[i]? = some (f (UInt8.ofNat i)) := by
  simp [tab, bytes_get i h]
theorem tab_at (f : UInt8 → Value) (c : UInt8) : (tab f)[c.toNat]? = some (f c) := by
  rw [tab_get f _ c.toNat_lt]; simp
theorem tab_set (f : UInt8 → Value) (c : UInt8) (v : Value) : (tab f).setIfInBounds c.toNat v = tab (fun d => if d = c then v else f d) := by
  apply Array.ext_getElem?
  intro i
  by_cases hi : i < 256
  · rw [tab_get _ i hi, Array.getElem?_setIfInBounds]
    by_cases h : c.toNat = i
    · rw [if_pos h, if_pos (by rw [tab_size]; omega), if_pos (by rw [← h]; simp)]
    · rw [if_neg h, tab_get f i hi, if_neg (fun e => h (by rw [← e]; simp; omega))]
  · rw [Array.getElem?_eq_none (by rw [Array.size_setIfInBounds, tab_size]; omega), Array.getElem?_eq_none (by rw [tab_size]; omega)]
/-- block g is an array of 256 -/
def Arr (w : World) (g : Nat) (t : TypeId) (f : UInt8 → Value) : Prop := w.heap[g]? = some (.cells (tab f) t (0, 0))
theorem Arr.cell {w : World} {g : Nat} {t : TypeId} {f : UInt8 → Value} (h : Arr w g t f) (c : UInt8) : w.cell? ⟨g, c.toNat, none⟩ = some (f c) := by
  rw [cell_of_row _ _ _ _ _ _ h, tab_at]
theorem Arr.frozen {w : World} {g : Nat} {t : TypeId} {f : UInt8 → Value} (h : Arr w g t f) (i : Nat) : w.frozen? ⟨g, i, none⟩ = false := by
  unfold Arr at h
  simp [World.frozen?, h]
theorem Arr.lt {w : World} {g : Nat} {t : TypeId} {f : UInt8 → Value} (h : Arr w g t f) : g < w.heap.size := (Array.getElem?_eq_some_iff.1 h).1
theorem Arr.set {w : World} {g : Nat} {t : TypeId} {f : UInt8 → Value} (h : Arr w g t f) (c : UInt8) (v : Value) : Arr (w.setCell ⟨g, c.toNat, none⟩ v) g t (fun d => if d = c then v else f d) := by
  unfold Arr
  rw [heap_setCell_same _ _ _ _ _ _ h, tab_set]
theorem Arr.other {w : World} {g : Nat} {t : TypeId} {f : UInt8 → Value} (h : Arr w g t f) (a : Addr) (v : Value) (hne : g ≠ a.block) : Arr (w.setCell a v) g t f := by
  unfold Arr
  rw [heap_setCell_other _ _ _ _ hne]; exact h
theorem Arr.below {w w' : World} {g : Nat} {t : TypeId} {f : UInt8 → Value} (h : Arr w g t f) (hb : Below w.heap.size w w') : Arr w' g t f := (hb.block g h.lt).trans h
theorem Arr.eq {w : World} {g : Nat} {t : TypeId} {f f' : UInt8 → Value} (h : Arr w g t f) (e : ∀ c, f c = f' c) : Arr w g t f' := by rw [← funext e]; exact h

/-! ### a whole array, by value -/
theorem run_load_arr {P : Program} {w : World} {g : Nat} {t : TypeId} {c : Array Value} {fr : Nat × Nat} {n : Nat} {e : TypeId} (h : w.heap[g]? = some (.cells c t fr)) (hu : P.underlying t = some (.array n e)) (hi : (P.info? t).map (·.size) = some c.size) :
    (Instr.loadAt t (.pointer (some ⟨g, 0, none⟩))).run P w = .ok (.agg c) w := by
  simp only [Instr.loadAt, Instr.sureAddr, Sem.run_bind, Sem.run_pure, Result.andThen]
  exact run_loadVar_row _ _ t t c fr _ h hu rfl hi
theorem run_store_arr {P : Program} {w : World} {g : Nat} {t : TypeId} {c c' : Array Value} (h : w.heap[g]? = some (.cells c t (0, 0))) (hi : (P.info? t).map (·.size) = some c'.size) (ho : c.size = c'.size) (h1 : c'.all (·.oneCell') = true) :
    (Instr.storeAt t (.pointer (some ⟨g, 0, none⟩)) (.agg c')).run P w = .ok () (w.setRow g c') := by
  simp only [Instr.storeAt, Instr.sureAddr, Sem.run_bind, Sem.run_pure, Result.andThen]
  exact run_storeVar_row _ _ t t c c' h hi ho h1
theorem wpList_load_arr {P : Program} (w : World) {ops : Array Oper} {rest : List Oper} {o : Oper} {a : Act} {Q : Exit → Act → World → Prop} (hg : o.guard = none) (x : Operand) (t : TypeId) (hop : o.op = Op.load t x) (g : Nat) (hx : a.eval x = .pointer (some ⟨g, 0, none⟩)) (c : Array Value)
    (hrun : (Instr.loadAt t (.pointer (some ⟨g, 0, none⟩))).run P w = .ok (.agg c) w) (hK : wpList P ops Q rest (a.put o.dst (.agg c)) w) : wpList P ops Q (o :: rest) a w := by
  refine wpList_plain hg fun K' hK' => ?_
  unfold Oper.wp
  simp [execOp, hop, hx, hrun, Result.andThen]
  exact hK' _ _ hK
theorem wpList_store_arr {P : Program} (w : World) {ops : Array Oper} {rest : List Oper} {o : Oper} {a : Act} {Q : Exit → Act → World → Prop} (hg : o.guard = none) (x y : Operand) (t : TypeId) (hop : o.op = Op.store t x y) (g : Nat) (hx : a.eval x = .pointer (some ⟨g, 0, none⟩)) (c : Array Value) (hy : a.eval y = .agg c) (w' : World)
    (hrun : (Instr.storeAt t (.pointer (some ⟨g, 0, none⟩)) (.agg c)).run P w = .ok () w') (hK : wpList P ops Q rest (a.put o.dst undef) w') : wpList P ops Q (o :: rest) a w := by
  refine wpList_plain hg fun K' hK' => ?_
  unfold Oper.wp
  simp [execOp, hop, hx, hy, hrun, Result.andThen]
  exact hK' _ _ hK
theorem results_cell {fn : Func} {p : Tmp} {ty : TypeId} (h : fn.results = #[.cell p ty]) (tmps : Array Value) (P : Program) (w : World) :
    (results fn tmps).run P w = ((asAddr (tmps.getD p undef)).run P w).andThen fun a w₁ => ((loadVar ty a).run P w₁) := by
  simp only [results, h]
  simp [Sem.run_bind, Result.andThen]
theorem Arr.setRow {w : World} {g : Nat} {t : TypeId} {f : UInt8 → Value} (h : Arr w g t f) (f' : UInt8 → Value) : Arr (w.setRow g (tab f')) g t f' := setRow_heap _ _ _ _ _ _ h
theorem tab_one (f : UInt8 → Value) (h : ∀ c, (f c).oneCell' = true) : (tab f).all (·.oneCell') = true := by
  rw [Array.all_eq_true_iff_forall_mem]
  intro x hx
  unfold tab at hx
  simp only [List.mem_toArray, List.mem_map] at hx
  obtain ⟨c, _, rfl⟩ := hx
  exact h c
end Go.Proofs.YtbofidpoajdcmaaGreatDoor.Cd
