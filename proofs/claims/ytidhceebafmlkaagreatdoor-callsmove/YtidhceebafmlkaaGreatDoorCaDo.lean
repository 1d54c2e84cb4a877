import Derived.Test.YtidhceebafmlkaaGreatDoorCaFindW
import Derived.Test.YtidhceebafmlkaaGreatDoorCaChown
import Derived.Test.YtidhceebafmlkaaGreatDoorCaRen
import Derived.Test.YtidhceebafmlkaaGreatDoorCaWrite
import Derived.Test.YtidhceebafmlkaaGreatDoorCaMkdir
import Derived.Test.YtidhceebafmlkaaGreatDoorCaTouch
import Derived.Test.YtidhceebafmlkaaGreatDoorCaKinds
import Derived.Test.YtidhceebafmlkaaGreatDoorCaLink
import Derived.Test.YtidhceebafmlkaaGreatDoorCaSym
namespace Go.Proofs.YtidhceebafmlkaaGreatDoor.Ca
open Go.RowKit Cu Tr Pm Pt
theorem enter_fn {P : Program} {f : FuncId} {fn : Func} {c : Code} (hf : P.funcs[f]? = some fn) (hname : (fn.name == "runtime.NumGoroutine") = false) (hb : fn.body = some c) (args : Array Value) (w : World) : (callFunc f args).run P w = .ok (.enter f args) w := by
  have h1 : fn.name ≠ "runtime.NumGoroutine" := by simpa using hname
  simp [callFunc, hf, h1, hb]
theorem Ot.low {w w' : World} {B B' : Nat} {v : Value} {ns : List Nd} (h : Ot w B v ns) (hk : ∀ k, B ≤ k → w'.heap[k]? = w.heap[k]?) (hb : B' ≤ B) : Ot w' B' v ns := by
  obtain ⟨l, h1, h2, h3, h4⟩ := h
  exact ⟨l, own_base (own_keep h1 fun k q => hk k (h1.lt k q).1) hb, fun x hx => ⟨own_base (own_keep (h2 x hx).1 fun k q => hk k ((h2 x hx).1.lt k q).1) hb, own_base (own_keep (h2 x hx).2 fun k q => hk k ((h2 x hx).2.lt k q).1) hb⟩, h3, h4⟩
theorem kinds12 {c : Cl} (h : mayBeP c = true) : c.kind = 1 ∨ c.kind = 2 ∨ c.kind = 3 ∨ c.kind = 4 ∨ c.kind = 5 ∨ c.kind = 6 ∨ c.kind = 7 ∨ c.kind = 8 ∨ c.kind = 9 ∨ c.kind = 10 ∨ c.kind = 11 ∨ c.kind = 12 := by
  have q := h
  unfold mayBeP at q
  simp only [Bool.and_eq_true, decide_eq_true_eq] at q
  have q1 := q.1.1.1.1.1.1.1.1
  have q2 := q.1.1.1.1.1.1.1.2
  have : c.kind.toNat ≠ 0 := fun e => q1 (UInt8.toNat_inj.1 e)
  rcases (show c.kind.toNat = 1 ∨ c.kind.toNat = 2 ∨ c.kind.toNat = 3 ∨ c.kind.toNat = 4 ∨ c.kind.toNat = 5 ∨ c.kind.toNat = 6 ∨ c.kind.toNat = 7 ∨ c.kind.toNat = 8 ∨ c.kind.toNat = 9 ∨ c.kind.toNat = 10 ∨ c.kind.toNat = 11 ∨ c.kind.toNat = 12 by omega) with e | e | e | e | e | e | e | e | e | e | e | e
  · exact .inl (UInt8.toNat_inj.1 e)
  · exact .inr (.inl (UInt8.toNat_inj.1 e))
  · exact .inr (.inr (.inl (UInt8.toNat_inj.1 e)))
  · exact .inr (.inr (.inr (.inl (UInt8.toNat_inj.1 e))))
  · exact .inr (.inr (.inr (.inr (.inl (UInt8.toNat_inj.1 e)))))
  · exact .inr (.inr (.inr (.inr (.inr (.inl (UInt8.toNat_inj.1 e))))))
  · exact .inr (.inr (.inr (.inr (.inr (.inr (.inl (UInt8.toNat_inj.1 e)))))))
  · exact .inr (.inr (.inr (.inr (.inr (.inr (.inr (.inl (UInt8.toNat_inj.1 e))))))))
  · exact .inr (.inr (.inr (.inr (.inr (.inr (.inr (.inr (.inl (UInt8.toNat_inj.1 e)))))))))
  · exact .inr (.inr (.inr (.inr (.inr (.inr (.inr (.inr (.inr (.inl (UInt8.toNat_inj.1 e))))))))))
  · exact .inr (.inr (.inr (.inr (.inr (.inr (.inr (.inr (.inr (.inr (.inl (UInt8.toNat_inj.1 e)))))))))))
  · exact .inr (.inr (.inr (.inr (.inr (.inr (.inr (.inr (.inr (.inr (.inr ((UInt8.toNat_inj.1 e))))))))))))
theorem does_any (A : Nat) (x : Option Addr) (n cap : Nat) (dx : Option Addr) (dc : Nat) (a : Ac) (hm : mayBeP a.c = true) (hp : (rowOf a.c.kind).2.1 = true → Okp a.ns a.p) (hq : a.c.kind = 6 ∨ a.c.kind = 7 ∨ a.c.kind = 8 → Okp a.ns a.q) (hcd : a.c.data.length ≤ 4611686018427387904) :
    ∃ f, (kArr A).getD a.c.kind.toNat undef = kF A f ∧ (∀ args w, (callFunc f args).run Tryz.prog w = .ok (.enter f args) w) ∧ ∀ W, At W A x n cap dx dc a → Calls Tryz.prog f #[.pointer (some ⟨A, 0, none⟩)] W (DoR a.does W) := by
  rcases kinds12 hm with e | e | e | e | e | e | e | e | e | e | e | e
  · refine ⟨122, by rw [e]; rfl, enter_fn Tryz.func122 (by kernel_rfl) rfl, fun W hW => ?_⟩
    have hd : a.does = a.fill [] := by unfold Ac.does; rw [if_pos e]
    rw [hd]
    exact write_any A x n cap dx dc a W hW (hp (by rw [e]; rfl)) hcd
  · refine ⟨123, by rw [e]; rfl, enter_fn Tryz.func123 (by kernel_rfl) rfl, fun W hW => ?_⟩
    have hd : a.does = a.fill a.here.data := by unfold Ac.does; rw [if_neg (by rw [e]; decide), if_pos e]
    rw [hd]
    exact lengthen_any A x n cap dx dc a W hW (hp (by rw [e]; rfl)) hcd
  · refine ⟨124, by rw [e]; rfl, enter_fn Tryz.func124 (by kernel_rfl) rfl, fun W hW => ?_⟩
    have hd : a.does = a.mkdir := by unfold Ac.does; rw [if_neg (by rw [e]; decide), if_neg (by rw [e]; decide), if_pos e]
    rw [hd]
    exact mkdir_any A x n cap dx dc a W hW (hp (by rw [e]; rfl))
  · refine ⟨125, by rw [e]; rfl, enter_fn Tryz.func125 (by kernel_rfl) rfl, fun W hW => ?_⟩
    have hd : a.does = a.rmdir := by unfold Ac.does; rw [if_neg (by rw [e]; decide), if_neg (by rw [e]; decide), if_neg (by rw [e]; decide), if_pos e]
    rw [hd]
    exact rmdir_any A x n cap dx dc a W hW (hp (by rw [e]; rfl))
  · refine ⟨126, by rw [e]; rfl, enter_fn Tryz.func126 (by kernel_rfl) rfl, fun W hW => ?_⟩
    have hd : a.does = a.unlink := by unfold Ac.does; rw [if_neg (by rw [e]; decide), if_neg (by rw [e]; decide), if_neg (by rw [e]; decide), if_neg (by rw [e]; decide), if_pos e]
    rw [hd]
    exact unlink_any A x n cap dx dc a W hW (hp (by rw [e]; rfl))
  · refine ⟨127, by rw [e]; rfl, enter_fn Tryz.func127 (by kernel_rfl) rfl, fun W hW => ?_⟩
    have hd : a.does = a.link := by unfold Ac.does; rw [if_neg (by rw [e]; decide), if_neg (by rw [e]; decide), if_neg (by rw [e]; decide), if_neg (by rw [e]; decide), if_neg (by rw [e]; decide), if_pos e]
    rw [hd]
    exact link_any A x n cap dx dc a W hW (hp (by rw [e]; rfl)) (hq (by rw [e]; decide))
  · refine ⟨128, by rw [e]; rfl, enter_fn Tryz.func128 (by kernel_rfl) rfl, fun W hW => ?_⟩
    have hd : a.does = a.symlink := by unfold Ac.does; rw [if_neg (by rw [e]; decide), if_neg (by rw [e]; decide), if_neg (by rw [e]; decide), if_neg (by rw [e]; decide), if_neg (by rw [e]; decide), if_neg (by rw [e]; decide), if_pos e]
    rw [hd]
    exact symlink_any A x n cap dx dc a W hW (hq (by rw [e]; decide))
  · refine ⟨129, by rw [e]; rfl, enter_fn Tryz.func129 (by kernel_rfl) rfl, fun W hW => ?_⟩
    have hd : a.does = a.rename := by unfold Ac.does; rw [if_neg (by rw [e]; decide), if_neg (by rw [e]; decide), if_neg (by rw [e]; decide), if_neg (by rw [e]; decide), if_neg (by rw [e]; decide), if_neg (by rw [e]; decide), if_neg (by rw [e]; decide), if_pos e]
    rw [hd]
    exact rename_any A x n cap dx dc a W hW (hp (by rw [e]; rfl)) (hq (by rw [e]; decide))
  · refine ⟨130, by rw [e]; rfl, enter_fn Tryz.func130 (by kernel_rfl) rfl, fun W hW => ?_⟩
    have hd : a.does = a.chmod := by unfold Ac.does; rw [if_neg (by rw [e]; decide), if_neg (by rw [e]; decide), if_neg (by rw [e]; decide), if_neg (by rw [e]; decide), if_neg (by rw [e]; decide), if_neg (by rw [e]; decide), if_neg (by rw [e]; decide), if_neg (by rw [e]; decide), if_pos e]
    rw [hd]
    exact chmod_any A x n cap dx dc a W hW (hp (by rw [e]; rfl))
  · refine ⟨131, by rw [e]; rfl, enter_fn Tryz.func131 (by kernel_rfl) rfl, fun W hW => ?_⟩
    have hd : a.does = a.chown := by unfold Ac.does; rw [if_neg (by rw [e]; decide), if_neg (by rw [e]; decide), if_neg (by rw [e]; decide), if_neg (by rw [e]; decide), if_neg (by rw [e]; decide), if_neg (by rw [e]; decide), if_neg (by rw [e]; decide), if_neg (by rw [e]; decide), if_neg (by rw [e]; decide), if_pos e]
    rw [hd]
    exact chown_any A x n cap dx dc a W hW (hp (by rw [e]; rfl))
  · refine ⟨132, by rw [e]; rfl, enter_fn Tryz.func132 (by kernel_rfl) rfl, fun W hW => ?_⟩
    have hd : a.does = a.touch := by unfold Ac.does; rw [if_neg (by rw [e]; decide), if_neg (by rw [e]; decide), if_neg (by rw [e]; decide), if_neg (by rw [e]; decide), if_neg (by rw [e]; decide), if_neg (by rw [e]; decide), if_neg (by rw [e]; decide), if_neg (by rw [e]; decide), if_neg (by rw [e]; decide), if_neg (by rw [e]; decide), if_pos e]
    rw [hd]
    exact touch_any A x n cap dx dc a W hW (hp (by rw [e]; rfl))
  · refine ⟨133, by rw [e]; rfl, enter_fn Tryz.func133 (by kernel_rfl) rfl, fun W hW => ?_⟩
    have hd : a.does = a.tick := by unfold Ac.does; rw [if_neg (by rw [e]; decide), if_neg (by rw [e]; decide), if_neg (by rw [e]; decide), if_neg (by rw [e]; decide), if_neg (by rw [e]; decide), if_neg (by rw [e]; decide), if_neg (by rw [e]; decide), if_neg (by rw [e]; decide), if_neg (by rw [e]; decide), if_neg (by rw [e]; decide), if_neg (by rw [e]; decide)]
    rw [hd]
    exact tick_any A x n cap dx dc a W hW e
structure Dc (w W : World) (A C R : Nat) (x : Option Addr) (n cap : Nat) (dx : Option Addr) (dc : Nat) (now : Int) (ns : List Nd) (c : Cl) (p q : Pl) : Prop where
  bel : Below w.heap.size w W
  abox : W.heap[A]? = some (.cells (atA (.slice x n cap) ⟨now, ns, c, p, q⟩ (.slice dx c.data.length dc)) tyAct)
  cbox : W.heap[C]? = some (.cells (clA c (.slice dx c.data.length dc)) 34 (0, 0))
  rbox : ∃ u v, W.heap[R]? = some (.cells #[u, v] 24 (0, 0))
  leR : w.heap.size ≤ R
section
variable {w W W' : World} {A C R : Nat} {x : Option Addr} {n cap : Nat} {dx : Option Addr} {dc : Nat} {now : Int} {ns : List Nd} {c : Cl} {p q : Pl}
theorem Dc.below (h : Dc w W A C R x n cap dx dc now ns c p q) (hb : Below W.heap.size W W') : Dc w W' A C R x n cap dx dc now ns c p q := by
  obtain ⟨u, v, hr⟩ := h.rbox
  exact ⟨h.bel.trans (hb.mono h.bel.size), (hb.block _ (Array.getElem?_eq_some_iff.1 h.abox).1).trans h.abox, (hb.block _ (Array.getElem?_eq_some_iff.1 h.cbox).1).trans h.cbox, ⟨u, v, (hb.block _ (Array.getElem?_eq_some_iff.1 hr).1).trans hr⟩, h.leR⟩
theorem Dc.dr (h : Dc w W A C R x n cap dx dc now ns c p q) : Dc w W.drew A C R x n cap dx dc now ns c p q := h.below (below_drew W 1)
theorem Dc.act (hx : Fx w x n cap dx dc now ns c) (h : Dc w W A C R x n cap dx dc now ns c p q) : At W A x n cap dx dc ⟨now, ns, c, p, q⟩ := ⟨h.abox, hx.ng.below h.bel, hx.dat.below h.bel, hx.chk, hx.env, hx.may⟩
theorem Dc.kind (h : Dc w W A C R x n cap dx dc now ns c p q) : W.cell? ⟨C, 0, none⟩ = some (.int .u8 (c.kind.toNat : Int)) := (cl_cells h.cbox).1
theorem Dc.ltR (h : Dc w W A C R x n cap dx dc now ns c p q) : R < W.heap.size := by
  obtain ⟨u, v, hr⟩ := h.rbox
  exact (Array.getElem?_eq_some_iff.1 hr).1
theorem Dc.rcells (h : Dc w W A C R x n cap dx dc now ns c p q) : (∃ u, W.cell? ⟨R, 0, none⟩ = some u) ∧ (∃ u, W.cell? ⟨R, 1, none⟩ = some u) ∧ W.frozen? ⟨R, 0, none⟩ = false ∧ W.frozen? ⟨R, 1, none⟩ = false := by
  obtain ⟨u, v, hr⟩ := h.rbox
  exact ⟨⟨u, by rw [cell_of_row _ _ _ _ _ _ hr]; rfl⟩, ⟨v, by rw [cell_of_row _ _ _ _ _ _ hr]; rfl⟩, by simp [World.frozen?, hr], by simp [World.frozen?, hr]⟩
theorem Dc.res (h : Dc w W A C R x n cap dx dc now ns c p q) (a b : Value) : Dc w ((W.setCell ⟨R, 0, none⟩ a).setCell ⟨R, 1, none⟩ b) A C R x n cap dx dc now ns c p q := by
  obtain ⟨u, v, hr⟩ := h.rbox
  have h1 : A ≠ R := obj_ne h.abox hr (by decide)
  have h2 : C ≠ R := obj_ne h.cbox hr (by decide)
  refine ⟨(h.bel.setCell (p := ⟨R, 0, none⟩) h.leR _).setCell (p := ⟨R, 1, none⟩) h.leR _, ?_, ?_, ⟨a, b, cell_set 1 _ _ _ rfl (cell_set 0 _ _ _ rfl hr)⟩, h.leR⟩
  · rw [heap_setCell_other _ ⟨R, 1, none⟩ _ _ h1, heap_setCell_other _ ⟨R, 0, none⟩ _ _ h1]; exact h.abox
  · rw [heap_setCell_other _ ⟨R, 1, none⟩ _ _ h2, heap_setCell_other _ ⟨R, 0, none⟩ _ _ h2]; exact h.cbox
end
theorem Fx.below {w W : World} {x : Option Addr} {n cap : Nat} {dx : Option Addr} {dc : Nat} {now : Int} {ns : List Nd} {c : Cl} (h : Fx w x n cap dx dc now ns c) (hb : Below w.heap.size w W) : Fx W x n cap dx dc now ns c :=
  ⟨h.ng.below hb, h.dat.below hb, h.tab.below hb, h.chk, h.env, h.may, h.path, h.other⟩
theorem both_ok {now : Int} {ns : List Nd} {c : Cl} (hf : (findBoth now ns c).2 = 0) : ((rowOf c.kind).2.1 = true → Okp ns (findBoth now ns c).1.1) ∧ (c.kind = 6 ∨ c.kind = 7 ∨ c.kind = 8 → Okp ns (findBoth now ns c).1.2) := by
  have hA : (if (rowOf c.kind).2.1 then findA now ns c.env c.path (rowOf c.kind).2.2 else (pz, 0)).2 = 0 := by
    refine Decidable.byContradiction fun q => ?_
    unfold findBoth at hf
    simp only at hf
    rw [if_pos q] at hf
    exact q hf
  refine ⟨fun q => ?_, fun q => ?_⟩
  · have hP : (findBoth now ns c).1.1 = (if (rowOf c.kind).2.1 then findA now ns c.env c.path (rowOf c.kind).2.2 else (pz, 0)).1 := by
      unfold findBoth
      simp only
      rw [if_neg (fun q => q hA)]
      split <;> rfl
    rw [hP, if_pos q]
    rw [if_pos q] at hA
    exact find_ok hA
  · unfold findBoth at hf ⊢
    simp only at hf ⊢
    rw [if_neg (fun q => q hA), if_pos q] at hf ⊢
    exact find_ok hf
abbrev zAct : Array Value := #[.slice none 0 0, .int .i64 0, .int .u8 0, .string ⟨#[]⟩, .string ⟨#[]⟩, .int .i64 0, .int .i64 0, .int .i64 0, .int .i64 0, .slice none 0 0, .int .i64 0, .int .i64 0, .int .i64 0, .int .i64 0, .int .i64 0, .string ⟨#[]⟩, .int .i64 0, .bool false, .int .i64 0, .string ⟨#[]⟩, .int .i64 0, .bool false]
structure Dq (w W : World) (T C R : Nat) (tv cv : Array Value) : Prop where
  bel : Below w.heap.size w W
  tbox : W.heap[T]? = some (.cells tv 24 (0, 0))
  cbox : W.heap[C]? = some (.cells cv 34 (0, 0))
  rbox : W.heap[R]? = some (.cells zTree 24 (0, 0))
  leR : w.heap.size ≤ R
theorem Dq.below {w W W' : World} {T C R : Nat} {tv cv : Array Value} (h : Dq w W T C R tv cv) (hb : Below W.heap.size W W') : Dq w W' T C R tv cv :=
  ⟨h.bel.trans (hb.mono h.bel.size), (hb.block _ (Array.getElem?_eq_some_iff.1 h.tbox).1).trans h.tbox, (hb.block _ (Array.getElem?_eq_some_iff.1 h.cbox).1).trans h.cbox, (hb.block _ (Array.getElem?_eq_some_iff.1 h.rbox).1).trans h.rbox, h.leR⟩
theorem Dq.cells {w W : World} {T C R : Nat} {x : Option Addr} {n cap : Nat} {now : Int} {c : Cl} {dv : Value} (h : Dq w W T C R #[.slice x n cap, .int .i64 now] (clA c dv)) :
    (W.cell? ⟨T, 0, none⟩ = some (.slice x n cap) ∧ W.cell? ⟨T, 1, none⟩ = some (.int .i64 now)) ∧ (W.cell? ⟨R, 0, none⟩ = some (.slice none 0 0) ∧ W.cell? ⟨R, 1, none⟩ = some (.int .i64 0)) ∧ (W.frozen? ⟨R, 0, none⟩ = false ∧ W.frozen? ⟨R, 1, none⟩ = false) ∧
    (W.cell? ⟨C, 0, none⟩ = some (.int .u8 (c.kind.toNat : Int)) ∧ W.cell? ⟨C, 1, none⟩ = some (.string c.path) ∧ W.cell? ⟨C, 2, none⟩ = some (.string c.other) ∧ W.cell? ⟨C, 3, none⟩ = some (.int .i64 c.mode) ∧ W.cell? ⟨C, 4, none⟩ = some (.int .i64 c.user) ∧ W.cell? ⟨C, 5, none⟩ = some (.int .i64 c.group) ∧ W.cell? ⟨C, 6, none⟩ = some (.int .i64 c.time) ∧ W.cell? ⟨C, 7, none⟩ = some dv ∧ W.cell? ⟨C, 8, none⟩ = some (.int .i64 c.env.user) ∧ W.cell? ⟨C, 9, none⟩ = some (.int .i64 c.env.group) ∧ W.cell? ⟨C, 10, none⟩ = some (.int .i64 c.env.mask) ∧ W.cell? ⟨C, 11, none⟩ = some (.int .i64 c.env.dir)) :=
  ⟨⟨cell_of_row _ _ _ _ _ _ h.tbox, cell_of_row _ _ _ _ _ _ h.tbox⟩, ⟨cell_of_row _ _ _ _ _ _ h.rbox, cell_of_row _ _ _ _ _ _ h.rbox⟩, ⟨by simp [World.frozen?, h.rbox], by simp [World.frozen?, h.rbox]⟩, cl_cells h.cbox⟩
theorem Dq.first (w : World) (tv cv : Array Value) : Dq w (((w.alloc (.cells tv 24)).alloc (.cells cv 34)).alloc (.cells zTree 24)) w.heap.size (w.heap.size + 1) (w.heap.size + 2) tv cv := by
  obtain ⟨w1, h1⟩ : ∃ w1, w1 = w.alloc (.cells tv 24) := ⟨_, rfl⟩
  obtain ⟨w2, h2⟩ : ∃ w2, w2 = w1.alloc (.cells cv 34) := ⟨_, rfl⟩
  have e1 : w1.heap.size = w.heap.size + 1 := by rw [h1]; simp
  have e2 : w2.heap.size = w.heap.size + 2 := by rw [h2]; simp [e1]
  have a1 : w1.heap[w.heap.size]? = some (.cells tv 24 (0, 0)) := by rw [h1]; exact heap_alloc_new w _
  have a2 : w2.heap[w.heap.size + 1]? = some (.cells cv 34 (0, 0)) := by rw [h2, ← e1]; exact heap_alloc_new w1 _
  have b1 : Below w.heap.size w w1 := by rw [h1]; exact al_below w _
  have b2 : Below w1.heap.size w1 w2 := by rw [h2]; exact al_below w1 _
  have b3 := al_below w2 (.cells zTree 24)
  rw [← h1, ← h2]
  refine ⟨(b1.trans (b2.mono b1.size)).trans (b3.mono (by omega)), ?_, ?_, ?_, by omega⟩
  · rw [b3.block _ (by omega), b2.block _ (by omega)]; exact a1
  · rw [b3.block _ (by omega)]; exact a2
  · rw [← e2]; exact heap_alloc_new w2 _
set_option maxRecDepth 100000 in
set_option maxHeartbeats 4000000 in
theorem do_any (x : Option Addr) (n cap : Nat) (dx : Option Addr) (dc : Nat) (now : Int) (ns : List Nd) (c : Cl) (w : World) (hng : Ng w x n cap ns) (hs : Sm ns) (hdat : By w dx c.data.length dc c.data) (hr : Rw w) (hpa : c.path.size ≤ 1000000000) (hot : c.other.size ≤ 1000000000) (hcd : c.data.length ≤ 4611686018427387904) :
    Calls Tryz.prog 13 #[.agg #[.slice x n cap, .int .i64 now], .agg (clA c (.slice dx c.data.length dc))] w (DoR (doP now ns c) w) := by
  have HMB : Hid (∀ W, Below w.heap.size w W → Calls Tryz.prog 47 #[.agg (clA c (.slice dx c.data.length dc))] W fun e w' => e = .returned (.bool (mayBeP c)) ∧ Below W.heap.size W w') := fun W hW => mayBe_any c dx dc W (hr.below hW)
  have HCK : Hid (∀ W, Below w.heap.size w W → Calls Tryz.prog 48 #[.agg #[.slice x n cap, .int .i64 now], .agg (ea c.env)] W fun r w' => r = .returned (.bool (someP now ns c.env)) ∧ Below W.heap.size W w') := fun W hW => pCheck_any x n cap ns now c.env W (hng.below hW) hs
  have HFX0 : Hid (mayBeP c = true → someP now ns c.env = true → Fx w x n cap dx dc now ns c) := fun h1 h2 => ⟨hng, hdat, hr, (some_dir h2).1, h2, h1, hpa, hot⟩
  obtain ⟨DD, hDD⟩ : ∃ DD, DD = doP now ns c := ⟨_, rfl⟩
  rw [← hDD]
  have HDD := hide hDD
  have HCD := hide hcd
  obtain ⟨w3, hw3⟩ : ∃ w3, w3 = ((w.alloc (.cells #[.slice x n cap, .int .i64 now] 24)).alloc (.cells (clA c (.slice dx c.data.length dc)) 34)).alloc (.cells zTree 24) := ⟨_, rfl⟩
  have HQ : Hid (Dq w w3 w.heap.size (w.heap.size + 1) (w.heap.size + 2) #[.slice x n cap, .int .i64 now] (clA c (.slice dx c.data.length dc))) := by rw [hw3]; exact Dq.first w _ _
  have HW3 := hide hw3
  clear hng hs hdat hr hpa hot hcd hDD hw3
  go_enter Tryz.func13, Tryz.ntmps13
  go_upto_region 1 with fail
  rw [← uh HW3]
  clear HW3
  obtain ⟨T, hT⟩ : ∃ T, T = w.heap.size := ⟨_, rfl⟩
  obtain ⟨C, hC⟩ : ∃ C, C = w.heap.size + 1 := ⟨_, rfl⟩
  obtain ⟨R, hR⟩ : ∃ R, R = w.heap.size + 2 := ⟨_, rfl⟩
  rw [← hR, ← hC, ← hT] at HQ ⊢
  clear hT hC hR
  obtain ⟨B, hB⟩ : ∃ B, B = !(mayBeP c && someP now ns c.env) := ⟨_, rfl⟩
  have HB := hide hB
  clear hB
  go_cut [17] (fun u wx => u = .bool B ∧ Hid (Dq w wx T C R #[.slice x n cap, .int .i64 now] (clA c (.slice dx c.data.length dc))))
  case first =>
    clear HDD
    obtain ⟨⟨t0, t1⟩, ⟨r0, r1⟩, ⟨z0, z1⟩, c0, c1, c2, c3, c4, c5, c6, c7, c8, c9, c10, c11⟩ := Dq.cells (uh HQ)
    cases hM : mayBeP c with
    | false =>
      go_wp2_with fail
      refine (uh HMB _ (uh HQ).bel).mono ?_
      rintro e w4 ⟨rfl, hb4⟩
      have HQ4 := hide ((uh HQ).below hb4)
      clear hb4 t0 t1 r0 r1 z0 z1 c0 c1 c2 c3 c4 c5 c6 c7 c8 c9 c10 c11
      go_wp2_with fail
      go_meet
      exact ⟨by rw [uh HB, hM]; rfl, uh HQ4⟩
    | true =>
      go_wp2_with fail
      refine (uh HMB _ (uh HQ).bel).mono ?_
      rintro e w4 ⟨rfl, hb4⟩
      have HQ4 := hide ((uh HQ).below hb4)
      clear hb4 t0 t1 r0 r1 z0 z1 c0 c1 c2 c3 c4 c5 c6 c7 c8 c9 c10 c11
      obtain ⟨⟨t0, t1⟩, ⟨r0, r1⟩, ⟨z0, z1⟩, c0, c1, c2, c3, c4, c5, c6, c7, c8, c9, c10, c11⟩ := Dq.cells (uh HQ4)
      go_wp2_with fail
      refine (uh HCK _ (uh HQ4).bel).mono ?_
      rintro e w5 ⟨rfl, hb5⟩
      have HQ5 := hide ((uh HQ4).below hb5)
      clear hb5 t0 t1 r0 r1 z0 z1 c0 c1 c2 c3 c4 c5 c6 c7 c8 c9 c10 c11
      go_wp2_with fail
      go_meet
      exact ⟨by rw [uh HB, hM, Bool.true_and], uh HQ5⟩
  case rest =>
  obtain ⟨rfl, hQ⟩ := hcut
  have HQ := hQ
  clear HMB HCK
  obtain ⟨⟨t0, t1⟩, ⟨r0, r1⟩, ⟨z0, z1⟩, c0, c1, c2, c3, c4, c5, c6, c7, c8, c9, c10, c11⟩ := Dq.cells (uh HQ)
  cases B with
  | true =>
    have HD2 : Hid (DD = no 1) := by
      show _ = _
      have q := uh HB
      rw [uh HDD]
      unfold doP
      rw [if_pos ?_]
      cases h1 : mayBeP c with
      | false => exact .inl rfl
      | true =>
        right
        cases h2 : someP now ns c.env with
        | false => rfl
        | true => rw [h1, h2] at q; cases q
    have HF := hide (((uh HQ).bel.setCell (p := ⟨R, 0, none⟩) (uh HQ).leR (.slice none 0 0)).setCell (p := ⟨R, 1, none⟩) (uh HQ).leR (.int .i64 0))
    clear HB HDD HFX0 hQ
    go_wp2_with fail
    refine bodyPost_ret (v := .tuple #[.agg #[.slice none 0 0, .int .i64 0], .int .i64 1]) (by simp [results, Tryz.results13, go_sem, r0, r1]) rfl ?_
    show DoR DD w _ _
    rw [uh HD2]
    exact ⟨⟨_, rfl, ot_nil _ _⟩, uh HF⟩
  | false =>
  have hB2 : mayBeP c = true ∧ someP now ns c.env = true := by
    have q := uh HB
    cases h1 : mayBeP c with
    | false => rw [h1] at q; cases q
    | true =>
      cases h2 : someP now ns c.env with
      | false => rw [h1, h2] at q; cases q
      | true => exact ⟨rfl, rfl⟩
  have hfx := uh HFX0 hB2.1 hB2.2
  have HFX := hide hfx
  have hkn : c.kind.toNat < 13 := hfx.kind
  obtain ⟨F, hF⟩ : ∃ F, F = findBoth now ns c := ⟨_, rfl⟩
  have HD2 : Hid (DD = if F.2 ≠ 0 then no F.2 else (Ac.mk now ns c F.1.1 F.1.2).does) := by
    show _ = _
    rw [uh HDD]
    unfold doP
    rw [if_neg (fun q => by rcases q with q | q <;> simp [hB2] at q), hF]
  obtain ⟨A, hA⟩ : ∃ A, A = wc.heap.size := ⟨_, rfl⟩
  have hR : (wc.alloc (.cells zAct 101)).heap[wc.heap.size]? = some (.cells zAct 101 (0, 0)) := heap_alloc_new wc _
  have HI : (Tryz.prog.info? 101).map (·.size) = some 22 := by kernel_rfl
  have hst := run_store_arr (P := Tryz.prog) hR (c' := atA (.slice x n cap) ⟨now, ns, c, pz, pz⟩ (.slice dx c.data.length dc)) HI rfl (by simp [Value.oneCell'])
  obtain ⟨w4, hw4⟩ : ∃ w4, w4 = (wc.alloc (.cells zAct 101)).setRow wc.heap.size (atA (.slice x n cap) ⟨now, ns, c, pz, pz⟩ (.slice dx c.data.length dc)) := ⟨_, rfl⟩
  rw [← hw4] at hst
  have HST := hide hst
  have hfd4 : Fd wc w4 A x n cap dx dc now ns c pz pz := by rw [hw4, hA]; exact ⟨Nat.le_refl _, below_setRow (al_below _ _) (Nat.le_refl _) _, setRow_heap _ _ _ _ _ _ hR⟩
  have HFI := hide (find_any wc A x n cap dx dc now ns c w4 (hfx.below (uh HQ).bel) hfd4)
  rw [← hF] at HFI
  have HDOES : Hid (F.2 = 0 → (∃ f, (kArr A).getD c.kind.toNat undef = kF A f ∧ (∀ args w, (callFunc f args).run Tryz.prog w = .ok (.enter f args) w) ∧ ∀ W, At W A x n cap dx dc ⟨now, ns, c, F.1.1, F.1.2⟩ → Calls Tryz.prog f #[.pointer (some ⟨A, 0, none⟩)] W (DoR (Ac.mk now ns c F.1.1 F.1.2).does W))) := fun h0 => by
    obtain ⟨o1, o2⟩ := both_ok (now := now) (ns := ns) (c := c) (by rw [← hF]; exact h0)
    rw [← hF] at o1 o2
    exact does_any A x n cap dx dc ⟨now, ns, c, F.1.1, F.1.2⟩ hB2.1 o1 o2 (uh HCD)
  have HA := hide hA
  clear HB HDD HFX0 hQ hfx hB2 hF hA hw4 hfd4 HCD hst hR HI
  go_upto_region 3 with fail
  go_wp2_with (first | refine wpList_build_run _ rfl 101 _ rfl #[(0, .agg #[.slice x n cap, .int .i64 now]), (1, .agg (clA c (.slice dx c.data.length dc)))] rfl _ (build_act _ _ _ _ _ _ _ _ _ _ _ _ _ _ _ _ _) ?_ | refine wpList_store_arr _ rfl _ _ 101 rfl _ rfl _ rfl _ (by exact uh HST) ?_)
  rw [← uh HA]
  clear HST HA t0 t1 r0 r1 z0 z1 c0 c1 c2 c3 c4 c5 c6 c7 c8 c9 c10 c11
  refine (uh HFI).mono ?_
  rintro e w5 ⟨rfl, hfd⟩
  have hq5 := (uh HQ).below hfd.bel
  have HDc : Hid (Dc w w5 A C R x n cap dx dc now ns c F.1.1 F.1.2) := ⟨hq5.bel, hfd.box, hq5.cbox, ⟨_, _, hq5.rbox⟩, hq5.leR⟩
  have HQ5 := hide hq5
  clear hfd hq5 HFI HQ
  by_cases hz : F.2 = 0
  · have hzb : (F.2 != 0) = false := by rw [hz]; rfl
    obtain ⟨f, hkf, hent, hdo⟩ := uh HDOES hz
    have HDO := hide hdo
    have HD3 : Hid (DD = (Ac.mk now ns c F.1.1 F.1.2).does) := by show _ = _; rw [uh HD2, if_neg (fun q => q hz)]
    obtain ⟨RR, hRR⟩ : ∃ RR, RR = (Ac.mk now ns c F.1.1 F.1.2).does := ⟨_, rfl⟩
    rw [← hRR] at HDO HD3
    generalize F.1.1 = p at *
    generalize F.1.2 = q at *
    have HS0 := hide (uh HDc).dr
    clear hdo hRR HDOES HD2 HQ5
    go_upto_region 7 with fail
    go_wp2_with fail
    refine wp_region_held_drew (S := (fun w' => Dc w w' A C R x n cap dx dc now ns c p q)) (by kernel_rfl) (uh HS0) (fun hHeld => ?_)
    refine tk 1 rfl (v := ?v501) (.inl ⟨by rfl, ?hy501⟩) ?rest501
    case hy501 => intro w hSw; have hSc := At.cells (Dc.act (uh HFX) hSw); have hSk := Dc.kind hSw; have hIX := kinds_at A w c.kind.toNat hkn; rw [hkf] at hIX; go_simp; try with_reducible rfl
    try simp only [pS]
    refine tk 2 rfl (v := ?v502) (.inl ⟨by rfl, ?hy502⟩) ?rest502
    case hy502 => intro w hSw; have hSc := At.cells (Dc.act (uh HFX) hSw); have hSk := Dc.kind hSw; have hIX := kinds_at A w c.kind.toNat hkn; rw [hkf] at hIX; go_simp; try with_reducible rfl
    try simp only [pS]
    refine wpAnyH_ready (rs := [0]) (by kernel_rfl) (by simp) ?_
    refine rc rfl fun K hK => ?_
    go_simp
    refine (kinds_any A _).mono ?_; rintro e w1' ⟨rfl, hb1⟩; have HS1 := hide ((uh HS0).below hb1); clear hb1
    go_wp2_with fail
    refine hK.out _ _ (by first | exact (uh HS1) | assumption | (dsimp only; assumption)) (fun hHeld2 => ?_)
    clear hK K
    try simp only [pS]
    refine tk 3 rfl (v := ?v503) (.inl ⟨by rfl, ?hy503⟩) ?rest503
    case hy503 => intro w hSw; have hSc := At.cells (Dc.act (uh HFX) hSw); have hSk := Dc.kind hSw; have hIX := kinds_at A w c.kind.toNat hkn; rw [hkf] at hIX; go_simp; try with_reducible rfl
    try simp only [pS]
    refine wpAnyH_ready (rs := [4]) (by kernel_rfl) (by simp) ?_
    refine rc rfl fun K hK => ?_
    go_simp
    refine ((uh HDO) _ (Dc.act (uh HFX) (uh HS1))).mono ?_; rintro e w2' ⟨⟨vv, rfl, hot⟩, hb2⟩; have HS2 := hide ((uh HS1).below hb2); obtain ⟨va, vn, vc, hvv⟩ : ∃ a n c, vv = .slice a n c := (by obtain ⟨l, hl, -⟩ := hot; obtain ⟨a, c, e⟩ := own_sl hl; exact ⟨a, _, c, e⟩); subst hvv; have HOT := hide hot; have HLT := hide (uh HS1).ltR; clear hb2 hot
    go_wp2_with fail
    refine hK.out _ _ (by first | exact (uh HS2) | assumption | (dsimp only; assumption)) (fun hHeld2 => ?_)
    clear hK K
    try simp only [pS]
    refine tk 5 rfl (v := ?v504) (.inl ⟨by rfl, ?hy504⟩) ?rest504
    case hy504 => intro w hSw; have hSc := At.cells (Dc.act (uh HFX) hSw); have hSk := Dc.kind hSw; have hIX := kinds_at A w c.kind.toNat hkn; rw [hkf] at hIX; go_simp; try with_reducible rfl
    try simp only [pS]
    refine tk 6 rfl (v := ?v505) (.inl ⟨by rfl, ?hy505⟩) ?rest505
    case hy505 => intro w hSw; have hSc := At.cells (Dc.act (uh HFX) hSw); have hSk := Dc.kind hSw; have hIX := kinds_at A w c.kind.toNat hkn; rw [hkf] at hIX; go_simp; try with_reducible rfl
    try simp only [pS]
    refine wpAnyH_ready (rs := [7]) (by kernel_rfl) (by simp) ?_
    refine rc rfl fun K hK => ?_
    obtain ⟨⟨u0, y0⟩, ⟨u1, y1⟩, z0, z1⟩ := (uh HS2).rcells; have HS3 := hide ((uh HS2).res (.slice va vn vc) (.int .i64 RR.1.2)); have HO3 := hide ((uh HOT).low (w' := (w2'.setCell ⟨R, 0, none⟩ (.slice va vn vc)).setCell ⟨R, 1, none⟩ (.int .i64 RR.1.2)) (fun k hk => by have := uh HLT; rw [heap_setCell_other _ ⟨R, 1, none⟩ _ _ (by show k ≠ R; omega), heap_setCell_other _ ⟨R, 0, none⟩ _ _ (by show k ≠ R; omega)]) (Nat.le_of_lt (Nat.lt_of_le_of_lt (uh HS2).leR (uh HLT)))); go_simp; go_wp2_with fail; clear HS2 HOT
    try simp only [pS]
    refine hK.out _ _ (by first | exact (uh HS3) | assumption | (dsimp only; assumption)) (fun hHeld2 => ?_)
    clear hK K
    try simp only [pS]
    refine tk 8 rfl (v := ?v506) (.inl ⟨by rfl, ?hy506⟩) ?rest506
    case hy506 => intro w hSw; have hSc := At.cells (Dc.act (uh HFX) hSw); have hSk := Dc.kind hSw; have hIX := kinds_at A w c.kind.toNat hkn; rw [hkf] at hIX; go_simp; try with_reducible rfl
    try simp only [pS]
    refine wpAnyH_done (by kernel_rfl) ?_ _
    go_wp2_with fail
    refine bodyPost_ret (v := .tuple #[.agg #[.slice va vn vc, .int .i64 RR.1.2], .int .i64 RR.2]) (by simp [results, Tryz.results13, go_sem, y0, y1]) rfl ?_
    show DoR DD w _ _
    rw [uh HD3]
    exact ⟨⟨_, rfl, uh HO3⟩, (uh HS3).bel⟩
  · have hzb : (F.2 != 0) = true := by simpa using hz
    have HD3 : Hid (DD = no F.2) := by show _ = _; rw [uh HD2, if_pos hz]
    obtain ⟨⟨t0, t1⟩, ⟨r0, r1⟩, ⟨z0, z1⟩, c0, c1, c2, c3, c4, c5, c6, c7, c8, c9, c10, c11⟩ := Dq.cells (uh HQ5)
    have HF := hide (((uh HQ5).bel.setCell (p := ⟨R, 0, none⟩) (uh HQ5).leR (.slice none 0 0)).setCell (p := ⟨R, 1, none⟩) (uh HQ5).leR (.int .i64 0))
    clear HD2 HDOES HFX HDc
    go_wp2_with fail
    refine bodyPost_ret (v := .tuple #[.agg #[.slice none 0 0, .int .i64 0], .int .i64 F.2]) (by simp [results, Tryz.results13, go_sem, r0, r1]) rfl ?_
    show DoR DD w _ _
    rw [uh HD3]
    exact ⟨⟨_, rfl, ot_nil _ _⟩, uh HF⟩
end Go.Proofs.YtidhceebafmlkaaGreatDoor.Ca
