/- Arrays of 256; which bytes the inside of a bracket has. -/
import Derived.Test.YtelijbnamiefcaaGlCut
import Derived.Deep.WholeRow
import Derived.Laws.ResultCell
import Derived.Laws.CopyOwn
namespace Go.Proofs.Ytelijbnamiefcaa.Gl
open Go.RowKit

/-- an array of 256, by its bytes -/
def tab (f : UInt8 → Value) : Array Value := ((List.range 256).map fun i => f (UInt8.ofNat i)).toArray
theorem tab_size (f : UInt8 → Value) : (tab f).size = 256 := by simp [tab]
theorem tab_get (f : UInt8 → Value) (i : Nat) (h : i < 256) : (tab f)[i]? = some (f (UInt8.ofNat i)) := by
  simp [tab, h]
theorem tab_at (f : UInt8 → Value) (c : UInt8) : (tab f)[c.toNat]? = some (f c) := by
  rw [tab_get f _ c.toNat_lt]; simp
theorem tab_set (f : UInt8 → Value) (c : UInt8) (v : Value) : (tab f).setIfInBounds c.toNat v = tab (fun d => if d = c then v else f d) := by
  apply Array.ext_getElem?
  intro i
  by_cases hi : i < 256
  · rw [tab_get _ i hi, Array.getElem?_setIfInBounds]
    by_cases h : c.toNat = i
    · rw [if_pos h, if_pos (by rw [tab_size]; omega), if_pos (by rw [← h]; simp)]
    · rw [if_neg h, tab_get f i hi, if_neg (fun e => h (by rw [← e]; simp; omega))]
  · rw [Array.getElem?_eq_none (by rw [Array.size_setIfInBounds, tab_size]; omega), Array.getElem?_eq_none (by rw [tab_size]; omega)]
/-- block g is an array of 256 -/
def Arr (w : World) (g : Nat) (t : TypeId) (f : UInt8 → Value) : Prop := w.heap[g]? = some (.cells (tab f) t (0, 0))
theorem Arr.cell {w : World} {g : Nat} {t : TypeId} {f : UInt8 → Value} (h : Arr w g t f) (c : UInt8) : w.cell? ⟨g, c.toNat, none⟩ = some (f c) := by
  rw [cell_of_row _ _ _ _ _ _ h, tab_at]
theorem Arr.frozen {w : World} {g : Nat} {t : TypeId} {f : UInt8 → Value} (h : Arr w g t f) (i : Nat) : w.frozen? ⟨g, i, none⟩ = false := by
  unfold Arr at h
  simp [World.frozen?, h]
theorem Arr.lt {w : World} {g : Nat} {t : TypeId} {f : UInt8 → Value} (h : Arr w g t f) : g < w.heap.size := (Array.getElem?_eq_some_iff.1 h).1
theorem Arr.set {w : World} {g : Nat} {t : TypeId} {f : UInt8 → Value} (h : Arr w g t f) (c : UInt8) (v : Value) : Arr (w.setCell ⟨g, c.toNat, none⟩ v) g t (fun d => if d = c then v else f d) := by
  unfold Arr
  rw [heap_setCell_same _ _ _ _ _ _ h, tab_set]
theorem Arr.other {w : World} {g : Nat} {t : TypeId} {f : UInt8 → Value} (h : Arr w g t f) (a : Addr) (v : Value) (hne : g ≠ a.block) : Arr (w.setCell a v) g t f := by
  unfold Arr
  rw [heap_setCell_other _ _ _ _ hne]; exact h
theorem Arr.below {w w' : World} {g : Nat} {t : TypeId} {f : UInt8 → Value} (h : Arr w g t f) (hb : Below w.heap.size w w') : Arr w' g t f := (hb.block g h.lt).trans h
theorem Arr.eq {w : World} {g : Nat} {t : TypeId} {f f' : UInt8 → Value} (h : Arr w g t f) (e : ∀ c, f c = f' c) : Arr w g t f' := by rw [← funext e]; exact h

/-! ### a whole array, by value -/
theorem run_load_arr {P : Program} {w : World} {g : Nat} {t : TypeId} {c : Array Value} {fr : Nat × Nat} {n : Nat} {e : TypeId} (h : w.heap[g]? = some (.cells c t fr)) (hu : P.underlying t = some (.array n e)) (hi : (P.info? t).map (·.size) = some c.size) :
    (Instr.loadAt t (.pointer (some ⟨g, 0, none⟩))).run P w = .ok (.agg c) w := by
  simp only [Instr.loadAt, Instr.sureAddr, Sem.run_bind, Sem.run_pure, Result.andThen]
  exact run_loadVar_row _ _ t t c fr _ h hu rfl hi
theorem run_store_arr {P : Program} {w : World} {g : Nat} {t : TypeId} {c c' : Array Value} (h : w.heap[g]? = some (.cells c t (0, 0))) (hi : (P.info? t).map (·.size) = some c'.size) (ho : c.size = c'.size) (h1 : c'.all (·.oneCell') = true) :
    (Instr.storeAt t (.pointer (some ⟨g, 0, none⟩)) (.agg c')).run P w = .ok () (w.setRow g c') := by
  simp only [Instr.storeAt, Instr.sureAddr, Sem.run_bind, Sem.run_pure, Result.andThen]
  exact run_storeVar_row _ _ t t c c' h hi ho h1
theorem wpList_load_arr {P : Program} (w : World) {ops : Array Oper} {rest : List Oper} {o : Oper} {a : Act} {Q : Exit → Act → World → Prop} (hg : o.guard = none) (x : Operand) (t : TypeId) (hop : o.op = Op.load t x) (g : Nat) (hx : a.eval x = .pointer (some ⟨g, 0, none⟩)) (c : Array Value)
    (hrun : (Instr.loadAt t (.pointer (some ⟨g, 0, none⟩))).run P w = .ok (.agg c) w) (hK : wpList P ops Q rest (a.put o.dst (.agg c)) w) : wpList P ops Q (o :: rest) a w := by
  refine wpList_plain hg fun K' hK' => ?_
  unfold Oper.wp
  simp [execOp, hop, hx, hrun, Result.andThen]
  exact hK' _ _ hK
theorem wpList_store_arr {P : Program} (w : World) {ops : Array Oper} {rest : List Oper} {o : Oper} {a : Act} {Q : Exit → Act → World → Prop} (hg : o.guard = none) (x y : Operand) (t : TypeId) (hop : o.op = Op.store t x y) (g : Nat) (hx : a.eval x = .pointer (some ⟨g, 0, none⟩)) (c : Array Value) (hy : a.eval y = .agg c) (w' : World)
    (hrun : (Instr.storeAt t (.pointer (some ⟨g, 0, none⟩)) (.agg c)).run P w = .ok () w') (hK : wpList P ops Q rest (a.put o.dst undef) w') : wpList P ops Q (o :: rest) a w := by
  refine wpList_plain hg fun K' hK' => ?_
  unfold Oper.wp
  simp [execOp, hop, hx, hy, hrun, Result.andThen]
  exact hK' _ _ hK
theorem results_cell {fn : Func} {p : Tmp} {ty : TypeId} (h : fn.results = #[.cell p ty]) (tmps : Array Value) (P : Program) (w : World) :
    (results fn tmps).run P w = ((asAddr (tmps.getD p undef)).run P w).andThen fun a w₁ => ((loadVar ty a).run P w₁) := by
  simp only [results, h]
  simp [Sem.run_bind, Result.andThen]
theorem Arr.setRow {w : World} {g : Nat} {t : TypeId} {f : UInt8 → Value} (h : Arr w g t f) (f' : UInt8 → Value) : Arr (w.setRow g (tab f')) g t f' := setRow_heap _ _ _ _ _ _ h
theorem tab_one (f : UInt8 → Value) (h : ∀ c, (f c).oneCell' = true) : (tab f).all (·.oneCell') = true := by
  rw [Array.all_eq_true_iff_forall_mem]
  intro x hx
  unfold tab at hx
  simp only [List.mem_toArray, List.mem_map] at hx
  obtain ⟨i, _, rfl⟩ := hx
  exact h _


def vb (p : UInt8 → Bool) : UInt8 → Value := fun c => .bool (p c)
def zb : UInt8 → Value := fun _ => .bool false
theorem Try.infoArrB : (Try.prog.info? 47).map (fun i => (i.zero, i.size)) = some (some (.agg (tab zb)), 256) := by kernel_rfl
theorem Arr.drew {w : World} {g : Nat} {t : TypeId} {f : UInt8 → Value} (h : Arr w g t f) (q : Nat) : Arr (w.drewN q) g t f := h
theorem bt_int (a b d : UInt8) : bt a b d = (decide ((a.toNat : Int) ≤ d.toNat) && decide ((d.toNat : Int) ≤ b.toNat)) := by
  unfold bt
  congr 1
  · congr 1; rw [UInt8.le_iff_toNat_le]; simp
  · congr 1; rw [UInt8.le_iff_toNat_le]; simp
theorem wrap_b (c : UInt8) : wrap64 (c.toNat : Int) = (c.toNat : Int) := by
  have := c.toNat_lt
  unfold wrap64; omega
/-- so far as the inner loop has come -/
def upto (p : UInt8 → Bool) (a : UInt8) (k : Nat) (d : UInt8) : Bool := p d || (decide (a.toNat ≤ d.toNat) && decide (d.toNat < k))
theorem upto_start (p : UInt8 → Bool) (a : UInt8) (d : UInt8) : p d = upto p a a.toNat d := by
  unfold upto
  have : (decide (a.toNat ≤ d.toNat) && decide (d.toNat < a.toNat)) = false := by
    rw [Bool.and_eq_false_iff, decide_eq_false_iff_not, decide_eq_false_iff_not]; omega
  rw [this, Bool.or_false]
theorem upto_step (p : UInt8 → Bool) (a : UInt8) (k : Nat) (hk : k < 256) (ha : a.toNat ≤ k) (d : UInt8) : (if d = UInt8.ofNat k then true else upto p a k d) = upto p a (k + 1) d := by
  have hn : (UInt8.ofNat k).toNat = k := by simp; omega
  by_cases h : d = UInt8.ofNat k
  · rw [if_pos h]
    unfold upto
    have e : d.toNat = k := by rw [h, hn]
    rw [e]
    simp [ha]
  · rw [if_neg h]
    unfold upto
    congr 2
    have : d.toNat ≠ k := fun e => h (by rw [← e]; simp)
    rw [Bool.eq_iff_iff]
    simp
    omega
theorem upto_end (p : UInt8 → Bool) (a b : UInt8) (k : Nat) (h1 : b.toNat < k) (h2 : k ≤ b.toNat + 1 ∨ k = a.toNat) (d : UInt8) : upto p a k d = (p d || bt a b d) := by
  unfold upto
  congr 1
  rw [bt_int, Bool.eq_iff_iff]
  simp
  omega
theorem upto_one (p : UInt8 → Bool) (a : UInt8) (d : UInt8) : (p d || bt a a d) = (p d || decide (a = d)) := by
  congr 1
  rw [bt_int, Bool.eq_iff_iff]
  simp
  constructor
  · intro h; exact UInt8.toNat_inj.1 (by omega)
  · intro h; rw [h]; omega

set_option maxHeartbeats 1000000 in
set_option maxRecDepth 100000 in
theorem insideBytes_any (s : ByteArray) (w : World) (_hs : s.size ≤ 5000) :
    Calls Try.prog 45 #[.string s] w fun e w' => e = .returned (.agg (tab (vb (ins (bs s))))) ∧ Below w.heap.size w w' := by
  obtain ⟨hzero, hinf⟩ := zero_of_info Try.infoArrB
  obtain ⟨z, hz⟩ : ∃ z, z = tab zb := ⟨_, rfl⟩
  rw [← hz] at hzero
  have HI := hide hinf
  have HZ := hide hz
  clear hz hinf
  go_enter Try.func45, Try.ntmps45
  go_wp2_with fail
  have hA0 : Hid (Arr ((w.alloc (.cells z 47)).alloc (.cells z 47)) (w.heap.size + 1) 47 zb) := by
    have := heap_alloc_new (w.alloc (.cells z 47)) (.cells z 47)
    rw [World.size_alloc] at this
    rw [unhide HZ] at this ⊢
    exact this
  have hR0 : Hid (Arr ((w.alloc (.cells z 47)).alloc (.cells z 47)) w.heap.size 47 zb) := by
    rw [unhide HZ]
    exact (Below.heap_alloc _ _ _ (by simp)).trans (heap_alloc_new w _)
  have hb0 : Hid (Below w.heap.size w ((w.alloc (.cells z 47)).alloc (.cells z 47))) := ((Below.refl _ _).alloc (Nat.le_refl _) _).alloc (by simp) _
  go_loopw [0] (fun v0 wr => ∃ (r : ByteArray) (p : UInt8 → Bool), r.size ≤ s.size ∧ v0 = .string r ∧ Hid (∀ c, ins (bs s) c = (p c || ins (bs r) c)) ∧ Hid (Arr wr (w.heap.size + 1) 47 (vb p)) ∧ Hid (Arr wr w.heap.size 47 zb) ∧ Hid (Below w.heap.size w wr)) (fun v0 _ => match v0 with | .string r => r.size | _ => 0)
  case atStart => exact ⟨s, fun _ => false, Nat.le_refl _, rfl, fun _ => rfl, hA0, hR0, hb0⟩
  case round =>
    clear hA0 hR0 hb0 hzero
    obtain ⟨r, p, hr, rfl, hI, hA, hR, hnx⟩ := hrel
    by_cases h0 : 0 < r.size
    · have he : r.toList.isEmpty = false := not_empty r h0
      by_cases h3 : 3 ≤ r.size
      · by_cases h45 : r[1] = 45
        · have hJ : Hid (∀ c, ins (bs s) c = ((p c || bt (r[0]) (r[2]) c) || ins (bs (r.extract 3 r.size)) c)) := fun c => by
            have e1 := bs_at r 0 (by omega)
            have e2 := bs_at r 1 (by omega)
            have e3 := bs_at r 2 (by omega)
            rw [List.drop_zero] at e1
            rw [unhide hI, e1, e2, e3, h45, ins_range, bs_from, Bool.or_assoc]
          have h3' : (3 : Int) ≤ (r.size : Int) := by omega
          have hc1 : ((r[1]).toNat : Int) = 45 := by rw [h45]; rfl
          clear h45
          have hw0 := wrap_b (r[0])
          have hwb := wrap_b (r[2])
          clear hI
          go_wp2_with fail
          go_quiet (fail)
          rename_i nq
          go_wp2_with fail
          go_loopw [7] (fun v7 wq => ∃ k : Nat, (r[0]).toNat ≤ k ∧ (k ≤ (r[2]).toNat + 1 ∨ k = (r[0]).toNat) ∧ v7 = .int .i64 k ∧ Hid (Arr wq (w.heap.size + 1) 47 (vb (upto p (r[0]) k))) ∧ Hid (Arr wq w.heap.size 47 zb) ∧ Hid (Below w.heap.size w wq)) (fun v7 _ => 256 - (intOf v7).toNat)
          case atStart => exact ⟨(r[0]).toNat, Nat.le_refl _, .inr rfl, by first | rfl | rw [wrap_b], (((unhide hA).drew nq).eq fun c => by unfold vb; rw [← upto_start p (r[0]) c]), (unhide hR).drew nq, (unhide hnx).trans ((below_drew wr nq).mono (unhide hnx).size)⟩
          case round =>
            clear hA hR hnx
            obtain ⟨k, hk1, hk2, rfl, hA, hR, hnx⟩ := hrel
            have hb256 := (r[2]).toNat_lt
            have ha256 := (r[0]).toNat_lt
            by_cases hlt : k ≤ (r[2]).toNat
            · have h256 : (k : Int) < 256 := by omega
              have hle : (k : Int) ≤ ((r[2]).toNat : Int) := by omega
              have hkn : (UInt8.ofNat k).toNat = k := by simp; omega
              have hcell := (unhide hA).cell (UInt8.ofNat k)
              rw [hkn] at hcell
              have hfz := (unhide hA).frozen k
              have hA2 : Hid (Arr (wr.setCell ⟨w.heap.size + 1, k, none⟩ (.bool true)) (w.heap.size + 1) 47 (vb (upto p (r[0]) (k + 1)))) := by
                have h := (unhide hA).set (UInt8.ofNat k) (.bool true)
                rw [hkn] at h
                refine h.eq fun d => ?_
                unfold vb
                rw [← upto_step p (r[0]) k (by omega) hk1 d]
                split <;> rfl
              have hR2 : Hid (Arr (wr.setCell ⟨w.heap.size + 1, k, none⟩ (.bool true)) w.heap.size 47 zb) := (unhide hR).other _ _ (by simp)
              have hb2 : Hid (Below w.heap.size w (wr.setCell ⟨w.heap.size + 1, k, none⟩ (.bool true))) := (unhide hnx).setCell (p := ⟨w.heap.size + 1, k, none⟩) (Nat.le_succ _) _
              clear hkn hA hR hnx
              go_wp2_with fail
              go_roundw
              case rel => exact ⟨k + 1, by omega, by omega, by go_num, hA2, hR2, hb2⟩
              case measure => simp [intOf]; omega
            · have hle : ¬ (k : Int) ≤ ((r[2]).toNat : Int) := by omega
              have hA2 : Hid (Arr wr (w.heap.size + 1) 47 (vb fun d => p d || bt (r[0]) (r[2]) d)) := (unhide hA).eq fun d => by unfold vb; rw [upto_end p (r[0]) (r[2]) k (by omega) hk2 d]
              clear hA
              go_wp2_with fail
              go_roundw
              case rel => exact ⟨r.extract 3 r.size, _, by rw [size_from]; omega, by simp, hJ, hA2, hR, hnx⟩
              case measure => simp only [size_from]; omega
        · have hJ : Hid (∀ c, ins (bs s) c = ((p c || bt (r[0]) (r[0]) c) || ins (bs (r.extract 1 r.size)) c)) := fun c => by
            rw [upto_one, unhide hI, bs_one r h0, ins_one, bs_from, Bool.or_assoc]
            intro m b t e
            have e2 := bs_at r 1 (by omega)
            rw [e2] at e
            intro e45
            injection e with e3 e4
            exact h45 (e3.trans e45)
          have h3' : (3 : Int) ≤ (r.size : Int) := by omega
          have hc1 : ¬ ((r[1]).toNat : Int) = 45 := fun e => h45 (u8_eq e)
          clear h45
          have hw0 := wrap_b (r[0])
          have hwb := wrap_b (r[0])
          clear hI
          go_wp2_with fail
          go_quiet (fail)
          rename_i nq
          go_wp2_with fail
          go_loopw [7] (fun v7 wq => ∃ k : Nat, (r[0]).toNat ≤ k ∧ (k ≤ (r[0]).toNat + 1 ∨ k = (r[0]).toNat) ∧ v7 = .int .i64 k ∧ Hid (Arr wq (w.heap.size + 1) 47 (vb (upto p (r[0]) k))) ∧ Hid (Arr wq w.heap.size 47 zb) ∧ Hid (Below w.heap.size w wq)) (fun v7 _ => 256 - (intOf v7).toNat)
          case atStart => exact ⟨(r[0]).toNat, Nat.le_refl _, .inr rfl, by first | rfl | rw [wrap_b], (((unhide hA).drew nq).eq fun c => by unfold vb; rw [← upto_start p (r[0]) c]), (unhide hR).drew nq, (unhide hnx).trans ((below_drew wr nq).mono (unhide hnx).size)⟩
          case round =>
            clear hA hR hnx
            obtain ⟨k, hk1, hk2, rfl, hA, hR, hnx⟩ := hrel
            have hb256 := (r[0]).toNat_lt
            have ha256 := (r[0]).toNat_lt
            by_cases hlt : k ≤ (r[0]).toNat
            · have h256 : (k : Int) < 256 := by omega
              have hle : (k : Int) ≤ ((r[0]).toNat : Int) := by omega
              have hkn : (UInt8.ofNat k).toNat = k := by simp; omega
              have hcell := (unhide hA).cell (UInt8.ofNat k)
              rw [hkn] at hcell
              have hfz := (unhide hA).frozen k
              have hA2 : Hid (Arr (wr.setCell ⟨w.heap.size + 1, k, none⟩ (.bool true)) (w.heap.size + 1) 47 (vb (upto p (r[0]) (k + 1)))) := by
                have h := (unhide hA).set (UInt8.ofNat k) (.bool true)
                rw [hkn] at h
                refine h.eq fun d => ?_
                unfold vb
                rw [← upto_step p (r[0]) k (by omega) hk1 d]
                split <;> rfl
              have hR2 : Hid (Arr (wr.setCell ⟨w.heap.size + 1, k, none⟩ (.bool true)) w.heap.size 47 zb) := (unhide hR).other _ _ (by simp)
              have hb2 : Hid (Below w.heap.size w (wr.setCell ⟨w.heap.size + 1, k, none⟩ (.bool true))) := (unhide hnx).setCell (p := ⟨w.heap.size + 1, k, none⟩) (Nat.le_succ _) _
              clear hkn hA hR hnx
              go_wp2_with fail
              go_roundw
              case rel => exact ⟨k + 1, by omega, by omega, by go_num, hA2, hR2, hb2⟩
              case measure => simp [intOf]; omega
            · have hle : ¬ (k : Int) ≤ ((r[0]).toNat : Int) := by omega
              have hA2 : Hid (Arr wr (w.heap.size + 1) 47 (vb fun d => p d || bt (r[0]) (r[0]) d)) := (unhide hA).eq fun d => by unfold vb; rw [upto_end p (r[0]) (r[0]) k (by omega) hk2 d]
              clear hA
              go_wp2_with fail
              go_roundw
              case rel => exact ⟨r.extract 1 r.size, _, by rw [size_from]; omega, by simp, hJ, hA2, hR, hnx⟩
              case measure => simp only [size_from]; omega
      · have hJ : Hid (∀ c, ins (bs s) c = ((p c || bt (r[0]) (r[0]) c) || ins (bs (r.extract 1 r.size)) c)) := fun c => by
          rw [upto_one, unhide hI, bs_one r h0, ins_one, bs_from, Bool.or_assoc]
          intro m b t e
          have e2 := congrArg List.length e
          rw [List.length_drop, bs_len] at e2
          simp at e2
          omega
        have h3' : ¬ (3 : Int) ≤ (r.size : Int) := by omega
        have hw0 := wrap_b (r[0])
        have hwb := wrap_b (r[0])
        clear hI
        go_wp2_with fail
        go_quiet (fail)
        rename_i nq
        go_wp2_with fail
        go_loopw [7] (fun v7 wq => ∃ k : Nat, (r[0]).toNat ≤ k ∧ (k ≤ (r[0]).toNat + 1 ∨ k = (r[0]).toNat) ∧ v7 = .int .i64 k ∧ Hid (Arr wq (w.heap.size + 1) 47 (vb (upto p (r[0]) k))) ∧ Hid (Arr wq w.heap.size 47 zb) ∧ Hid (Below w.heap.size w wq)) (fun v7 _ => 256 - (intOf v7).toNat)
        case atStart => exact ⟨(r[0]).toNat, Nat.le_refl _, .inr rfl, by first | rfl | rw [wrap_b], (((unhide hA).drew nq).eq fun c => by unfold vb; rw [← upto_start p (r[0]) c]), (unhide hR).drew nq, (unhide hnx).trans ((below_drew wr nq).mono (unhide hnx).size)⟩
        case round =>
          clear hA hR hnx
          obtain ⟨k, hk1, hk2, rfl, hA, hR, hnx⟩ := hrel
          have hb256 := (r[0]).toNat_lt
          have ha256 := (r[0]).toNat_lt
          by_cases hlt : k ≤ (r[0]).toNat
          · have h256 : (k : Int) < 256 := by omega
            have hle : (k : Int) ≤ ((r[0]).toNat : Int) := by omega
            have hkn : (UInt8.ofNat k).toNat = k := by simp; omega
            have hcell := (unhide hA).cell (UInt8.ofNat k)
            rw [hkn] at hcell
            have hfz := (unhide hA).frozen k
            have hA2 : Hid (Arr (wr.setCell ⟨w.heap.size + 1, k, none⟩ (.bool true)) (w.heap.size + 1) 47 (vb (upto p (r[0]) (k + 1)))) := by
              have h := (unhide hA).set (UInt8.ofNat k) (.bool true)
              rw [hkn] at h
              refine h.eq fun d => ?_
              unfold vb
              rw [← upto_step p (r[0]) k (by omega) hk1 d]
              split <;> rfl
            have hR2 : Hid (Arr (wr.setCell ⟨w.heap.size + 1, k, none⟩ (.bool true)) w.heap.size 47 zb) := (unhide hR).other _ _ (by simp)
            have hb2 : Hid (Below w.heap.size w (wr.setCell ⟨w.heap.size + 1, k, none⟩ (.bool true))) := (unhide hnx).setCell (p := ⟨w.heap.size + 1, k, none⟩) (Nat.le_succ _) _
            clear hkn hA hR hnx
            go_wp2_with fail
            go_roundw
            case rel => exact ⟨k + 1, by omega, by omega, by go_num, hA2, hR2, hb2⟩
            case measure => simp [intOf]; omega
          · have hle : ¬ (k : Int) ≤ ((r[0]).toNat : Int) := by omega
            have hA2 : Hid (Arr wr (w.heap.size + 1) 47 (vb fun d => p d || bt (r[0]) (r[0]) d)) := (unhide hA).eq fun d => by unfold vb; rw [upto_end p (r[0]) (r[0]) k (by omega) hk2 d]
            clear hA
            go_wp2_with fail
            go_roundw
            case rel => exact ⟨r.extract 1 r.size, _, by rw [size_from]; omega, by simp, hJ, hA2, hR, hnx⟩
            case measure => simp only [size_from]; omega
    · have he : r.toList.isEmpty = true := is_empty r (by omega)
      have hkn : Hid (∀ c, ins (bs s) c = p c) := fun c => by
        rw [unhide hI, List.eq_nil_of_length_eq_zero (l := bs r) (by rw [bs_len]; omega)]; simp [ins]
      obtain ⟨p', hp'⟩ : ∃ p', p' = ins (bs s) := ⟨_, rfl⟩
      have hpe : Hid (vb p = vb p') := funext fun c => by unfold vb; rw [hp', unhide hkn]
      rw [unhide hpe] at hA
      have HP := hide hp'
      clear hp'
      have hld := hide (run_load_arr (unhide hA) Try.underlying47 (by rw [tab_size]; exact unhide HI))
      have hst := hide (run_store_arr (unhide hR) (c' := tab (vb p')) (by rw [tab_size]; exact unhide HI) (by rw [tab_size, tab_size]) (tab_one _ (fun _ => rfl)))
      have hA9 := hide ((unhide hR).setRow (vb p'))
      have hb9 : Hid (Below w.heap.size w (wr.setRow w.heap.size (tab (vb p')))) := below_setRow (unhide hnx) (Nat.le_refl _) _
      generalize wr.setRow w.heap.size (tab (vb p')) = w9 at *
      have hld9 := hide (run_loadVar_row _ _ _ _ _ _ _ (unhide hA9) Try.underlying47 rfl (by rw [tab_size]; exact unhide HI))
      obtain ⟨A, hAe⟩ : ∃ A, A = tab (vb p') := ⟨_, rfl⟩
      rw [← hAe] at hld hst hld9
      have HAE := hide hAe
      clear hkn hA hR hA9 hAe hI hpe
      go_wp2_with (first | (refine wpList_load_arr _ rfl _ 47 rfl _ rfl _ (by exact unhide hld) ?_) | (refine wpList_store_arr _ rfl _ _ 47 rfl _ rfl _ rfl _ (by exact unhide hst) ?_))
      refine bodyPost_ret (v := .agg A) ?_ rfl ⟨by rw [unhide HAE, unhide HP], unhide hb9⟩
      rw [results_cell rfl]
      simp [asAddr, Result.andThen, Act.put, unhide hld9]
end Go.Proofs.Ytelijbnamiefcaa.Gl
