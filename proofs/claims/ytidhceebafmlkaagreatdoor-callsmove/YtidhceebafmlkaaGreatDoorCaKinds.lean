import Derived.Test.YtidhceebafmlkaaGreatDoorCaKind
import Derived.BigRegion
import Derived.Test.YtidhceebafmlkaaGreatDoorCaAct3
import Derived.Laws.Tables
import Derived.Laws.CopyOwn
namespace Go.Proofs.YtidhceebafmlkaaGreatDoor.Ca
open Go.RowKit Cu Tr Pm Pt
theorem Df.renow {w : World} {B D : Nat} {now : Int} {v : Value} {l : List Nv} (h : Df w B D now v l) (t : Int) : Df (w.setCell ⟨D, 1, none⟩ (.int .i64 t)) B D t v l := by
  have k2 : ∀ (k : Nat), k ≠ D → (w.setCell ⟨D, 1, none⟩ (.int .i64 t)).heap[k]? = w.heap[k]? := fun k hk => heap_setCell_other _ ⟨D, _, none⟩ k _ hk
  have off : ∀ (k : Nat) (c : Array Value) (e : TypeId), w.heap[k]? = some (.cells c e (0, 0)) → e ≠ 230 → (w.setCell ⟨D, 1, none⟩ (.int .i64 t)).heap[k]? = w.heap[k]? := fun k c e hk he => k2 k (obj_ne hk h.box he)
  refine ⟨?_, h.hD, own_keep h.row fun k hk => (own_type h.row hk).elim fun cu hcu => off k _ _ hcu (by decide), fun x hx => ?_, h.ap⟩
  · rw [heap_setCell_same _ _ _ _ _ _ h.box]; rfl
  · have q := h.own x hx
    exact ⟨own_keep q.1 fun k hk => (own_type q.1 hk).elim fun cu hcu => off k _ _ hcu (by decide), own_keep q.2 fun k hk => (own_type q.2 hk).elim fun cu hcu => off k _ _ hcu (by decide)⟩
set_option maxRecDepth 100000 in
set_option maxHeartbeats 2000000 in
theorem tick_any (A : Nat) (x : Option Addr) (n cap : Nat) (dx : Option Addr) (dc : Nat) (a : Ac) (w : World) (h : At w A x n cap dx dc a) (hk : a.c.kind = 12) :
    Calls Tryz.prog 133 #[.pointer (some ⟨A, 0, none⟩)] w (DoR a.tick w) := by
  have ht : 0 ≤ a.c.time ∧ a.c.time ≤ 1099511627775 := by
    have q := h.may
    unfold mayBeP at q
    rw [if_pos hk] at q
    simp only [Bool.and_eq_true, decide_eq_true_eq] at q
    omega
  have hn : 0 ≤ a.now ∧ a.now ≤ 1099511627775 := by
    have q := (checkP_parts h.chk).2.2.2.2.2.2.2.2
    unfold timeP at q
    simp only [Bool.and_eq_true, decide_eq_true_eq] at q
    exact q
  obtain ⟨lo1, hi1⟩ := ht
  obtain ⟨lo2, hi2⟩ := hn
  obtain ⟨RR, hRR⟩ : ∃ RR, RR = a.tick := ⟨_, rfl⟩
  rw [← hRR]
  obtain ⟨M, hM⟩ : ∃ M, Hid (M = min (a.now + a.c.time) 1099511627775) := ⟨_, rfl⟩
  have HK2 : Hid (RR = yes M a.ns) := by show _ = _; rw [hRR, uh hM]; rfl
  clear hRR
  obtain ⟨w1, hw1⟩ : ∃ w1, w1 = w.alloc (.cells zTree 24) := ⟨_, rfl⟩
  have HA : Hid (At w1 A x n cap dx dc a) := by rw [hw1]; exact h.al _
  have HRB : Hid (w.heap.size < w1.heap.size) := by rw [hw1]; show _ < _; simp
  have HW1 := hide hw1
  have HCP := hide (copy_any (uh HA))
  clear h hw1 hk
  go_enter Tryz.func133, Tryz.ntmps133
  go_upto_region 1 with fail
  rw [← uh HW1]
  go_wp2_with fail
  refine (uh HCP).mono ?_
  rintro e w2 ⟨⟨D, v2, l2, rfl, hdf2, hm2⟩, hb2⟩
  obtain ⟨t0, t1, f0⟩ := hdf2.cells
  have f1 : w2.frozen? ⟨D, 1, none⟩ = false := by simp [World.frozen?, hdf2.box]
  obtain ⟨-, -, -, -, -, -, -, -, c8, -⟩ := ((uh HA).below hb2).cells
  obtain ⟨va, vc, hv⟩ := own_sl hdf2.row
  subst hv
  have HD3 := hide ((hdf2.renow M).below (below_drew _ 1))
  have HM3 := hide hm2
  have CB3 := hide (below_dr (hb2.setCell (p := ⟨D, 1, none⟩) hdf2.hD (.int .i64 M)))
  clear hdf2 hm2 hb2 HCP
  go_wp2_with fail
  go_region
  go_upto_region 3 with fail
  rw [← uh hM]
  obtain ⟨w4, hw4⟩ : ∃ w4, w4 = (w2.setCell ⟨D, 1, none⟩ (.int .i64 M)).drew := ⟨_, rfl⟩
  rw [← hw4]
  have HD4 : Hid (Df w4 w1.heap.size D M (.slice va l2.length vc) l2) := by rw [hw4]; exact uh HD3
  have CB4 : Hid (Below w1.heap.size w1 w4) := by rw [hw4]; exact uh CB3
  clear HD3 CB3 hw4 t0 t1 f0 f1 c8 hM lo1 lo2 hi1 hi2
  have HBW := hide (show Below (w.alloc (.cells zTree 24)).heap.size (w.alloc (.cells zTree 24)) w4 from by rw [← uh HW1]; exact uh CB4)
  obtain ⟨r0, r1, z0, z1⟩ := room_cells (uh HBW)
  obtain ⟨t0, t1, -⟩ := (uh HD4).cells
  have HDF := hide (((uh HD4).room (uh HRB) (.slice va l2.length vc) (.int .i64 M)).ot (Nat.le_of_lt (uh HRB)) (uh HM3))
  have HF := hide (room_below (uh HBW) (.slice va l2.length vc) (.int .i64 M))
  clear HW1
  go_wp2_with fail
  refine bodyPost_ret (v := .tuple #[.agg #[.slice va l2.length vc, .int .i64 M], .int .i64 0]) (by simp [results, Tryz.results133, go_sem, r0, r1]) rfl ?_
  show DoR RR w _ _
  rw [uh HK2]
  exact ⟨⟨_, rfl, uh HDF⟩, uh HF⟩
end Go.Proofs.YtidhceebafmlkaaGreatDoor.Ca

namespace Go.Proofs.YtidhceebafmlkaaGreatDoor.Ca
open Go.RowKit Cu Tr Pm Pt
theorem run_store_arr {P : Program} {w : World} {g : Nat} {t : TypeId} {c c' : Array Value} (h : w.heap[g]? = some (.cells c t (0, 0))) (hi : (P.info? t).map (·.size) = some c'.size) (ho : c.size = c'.size) (h1 : c'.all (·.oneCell') = true) :
    (Instr.storeAt t (.pointer (some ⟨g, 0, none⟩)) (.agg c')).run P w = .ok () (w.setRow g c') := by
  simp only [Instr.storeAt, Instr.sureAddr, Sem.run_bind, Sem.run_pure, Result.andThen]
  exact run_storeVar_row _ _ t t c c' h hi ho h1
theorem wpList_store_arr {P : Program} (w : World) {ops : Array Oper} {rest : List Oper} {o : Oper} {a : Act} {Q : Exit → Act → World → Prop} (hg : o.guard = none) (x y : Operand) (t : TypeId) (hop : o.op = Op.store t x y) (g : Nat) (hx : a.eval x = .pointer (some ⟨g, 0, none⟩)) (c : Array Value) (hy : a.eval y = .agg c) (w' : World)
    (hrun : (Instr.storeAt t (.pointer (some ⟨g, 0, none⟩)) (.agg c)).run P w = .ok () w') (hK : wpList P ops Q rest (a.put o.dst undef) w') : wpList P ops Q (o :: rest) a w := by
  refine wpList_plain hg fun K' hK' => ?_
  unfold Oper.wp
  simp [execOp, hop, hx, hy, hrun, Result.andThen]
  exact hK' _ _ hK
theorem results_cell {fn : Func} {p : Tmp} {ty : TypeId} (h : fn.results = #[.cell p ty]) (tmps : Array Value) (P : Program) (w : World) :
    (results fn tmps).run P w = ((asAddr (tmps.getD p undef)).run P w).andThen fun a w₁ => ((loadVar ty a).run P w₁) := by
  simp only [results, h]
  simp [Sem.run_bind, Result.andThen]
abbrev kNil : Array Value := #[.nilFunc, .nilFunc, .nilFunc, .nilFunc, .nilFunc, .nilFunc, .nilFunc, .nilFunc, .nilFunc, .nilFunc, .nilFunc, .nilFunc, .nilFunc]
abbrev kF (A f : Nat) : Value := .func (.func f) #[.pointer (some ⟨A, 0, none⟩)] #[]
abbrev kArr (A : Nat) : Array Value := #[.nilFunc, kF A 122, kF A 123, kF A 124, kF A 125, kF A 126, kF A 127, kF A 128, kF A 129, kF A 130, kF A 131, kF A 132, kF A 133]
set_option maxRecDepth 100000 in
set_option maxHeartbeats 1000000 in
theorem kinds_any (A : Nat) (w : World) : Calls Tryz.prog 50 #[.pointer (some ⟨A, 0, none⟩)] w fun e w' => e = .returned (.agg (kArr A)) ∧ Below w.heap.size w w' := by
  have hR : (w.alloc (.cells kNil 104)).heap[w.heap.size]? = some (.cells kNil 104 (0, 0)) := heap_alloc_new w _
  have HI : (Tryz.prog.info? 104).map (·.size) = some 13 := by kernel_rfl
  have hst := hide (run_store_arr (P := Tryz.prog) hR (c' := kArr A) HI rfl (by simp [Value.oneCell']))
  have hA9 := setRow_heap _ _ _ (kArr A) _ _ hR
  have hb9 : Hid (Below w.heap.size w ((w.alloc (.cells kNil 104)).setRow w.heap.size (kArr A))) := below_setRow (al_below _ _) (Nat.le_refl _) _
  generalize (w.alloc (.cells kNil 104)).setRow w.heap.size (kArr A) = w9 at hst hA9 hb9
  have hld9 := hide (run_loadVar_row _ _ _ _ _ _ _ hA9 Tryz.underlying104 rfl HI)
  clear hR hA9
  go_enter Tryz.func50, Tryz.ntmps50
  go_wp2_with (refine wpList_store_arr _ rfl _ _ 104 rfl _ rfl _ rfl _ (by exact uh hst) ?_)
  refine bodyPost_ret (v := .agg (kArr A)) ?_ rfl ⟨rfl, uh hb9⟩
  rw [results_cell rfl]
  simp [asAddr, Result.andThen, Act.put, uh hld9]
set_option maxRecDepth 100000 in
set_option maxHeartbeats 1000000 in
theorem kinds_at (A : Nat) (w : World) (k : Nat) (hk : k < 13) : (Instr.index 104 (.agg (kArr A)) (.int .u8 (k : Int))).run Tryz.prog w = .ok ((kArr A).getD k undef) w := by
  match k, hk with
  | 0, _ | 1, _ | 2, _ | 3, _ | 4, _ | 5, _ | 6, _ | 7, _ | 8, _ | 9, _ | 10, _ | 11, _ | 12, _ => simp [Instr.index, run_underlying Tryz.underlying104, asIntOf, go_sem, Tryz.sizeOf103, part, Tryz.isAgg103]
end Go.Proofs.YtidhceebafmlkaaGreatDoor.Ca
