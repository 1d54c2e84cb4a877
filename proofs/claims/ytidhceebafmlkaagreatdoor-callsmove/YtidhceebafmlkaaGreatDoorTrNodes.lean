import Derived.Test.YtidhceebafmlkaaGreatDoorTrMay
import Derived.Deep.WholeRow
import Derived.Deep.CutBlock
import Derived.Deep.DeepCutAuto
import Derived.Deep.RegionWith
namespace Go.Proofs.YtidhceebafmlkaaGreatDoor.Tr
open Go.RowKit Cu
abbrev fv (i : Nat) : Value := .func (.func i) #[] #[]
abbrev kindsA : Array Value := #[fv 229, fv 230, fv 231, fv 232]
abbrev tyK : TypeId := 207
theorem run_store_arr {P : Program} {w : World} {g : Nat} {t : TypeId} {c c' : Array Value} (h : w.heap[g]? = some (.cells c t (0, 0))) (hi : (P.info? t).map (·.size) = some c'.size) (ho : c.size = c'.size) (h1 : c'.all (·.oneCell') = true) :
    (Instr.storeAt t (.pointer (some ⟨g, 0, none⟩)) (.agg c')).run P w = .ok () (w.setRow g c') := by
  simp only [Instr.storeAt, Instr.sureAddr, Sem.run_bind, Sem.run_pure, Result.andThen]
  exact run_storeVar_row _ _ t t c c' h hi ho h1
theorem wpList_store_arr {P : Program} (w : World) {ops : Array Oper} {rest : List Oper} {o : Oper} {a : Act} {Q : Exit → Act → World → Prop} (hg : o.guard = none) (x y : Operand) (t : TypeId) (hop : o.op = Op.store t x y) (g : Nat) (hx : a.eval x = .pointer (some ⟨g, 0, none⟩)) (c : Array Value) (hy : a.eval y = .agg c) (w' : World)
    (hrun : (Instr.storeAt t (.pointer (some ⟨g, 0, none⟩)) (.agg c)).run P w = .ok () w') (hK : wpList P ops Q rest (a.put o.dst undef) w') : wpList P ops Q (o :: rest) a w := by
  refine wpList_plain hg fun K' hK' => ?_
  unfold Oper.wp
  simp [execOp, hop, hx, hy, hrun, Result.andThen]
  exact hK' _ _ hK
theorem results_cell {fn : Func} {p : Tmp} {ty : TypeId} (h : fn.results = #[.cell p ty]) (tmps : Array Value) (P : Program) (w : World) :
    (results fn tmps).run P w = ((asAddr (tmps.getD p undef)).run P w).andThen fun a w₁ => ((loadVar ty a).run P w₁) := by
  simp only [results, h]
  simp [Sem.run_bind, Result.andThen]
theorem Tryz.infoK : (Tryz.prog.info? tyK).map (fun i => i.size) = some 4 := by kernel_rfl
abbrev nilK : Array Value := #[.nilFunc, .nilFunc, .nilFunc, .nilFunc]
theorem storeK (w : World) : (Instr.storeAt tyK (.pointer (some ⟨w.heap.size, 0, none⟩)) (.agg kindsA)).run Tryz.prog (w.alloc (.cells nilK tyK)) = .ok () (w.alloc (.cells kindsA tyK)) := by
  rw [← World.setRow_alloc_new w nilK kindsA tyK]
  exact run_store_arr (heap_alloc_new w _) Tryz.infoK rfl (by simp [Value.oneCell'])
set_option maxRecDepth 100000 in
set_option maxHeartbeats 1000000 in
theorem kinds_any (w : World) : Calls Tryz.prog 174 #[] w fun e w' => e = .returned (.agg kindsA) ∧ Below w.heap.size w w' := by
  have hst := hide (storeK w)
  have hrow := heap_alloc_new w (.cells kindsA tyK)
  have hB := hide ((Below.refl _ w).alloc (Nat.le_refl _) (.cells kindsA tyK))
  have hld := hide (run_loadVar_row _ _ _ tyK _ _ _ hrow Tryz.underlying207 rfl Tryz.infoK)
  clear hrow
  go_enter Tryz.func174, Tryz.ntmps174
  go_wp2_with (refine wpList_store_arr _ rfl _ _ tyK rfl _ rfl _ rfl _ (by exact uh hst) ?_)
  refine bodyPost_ret (v := .agg kindsA) ?_ rfl ⟨rfl, uh hB⟩
  rw [results_cell rfl]
  simp [asAddr, Result.andThen, Act.put, uh hld]
structure Fs (w : World) (P g : Nat) (w' : World) : Prop where
  below : Below w.heap.size w w'
  hP : P < w'.heap.size
  hg : g < w'.heap.size
theorem kind_four (k : UInt8) (hk : k.toNat < 4) : k = 0 ∨ k = 1 ∨ k = 2 ∨ k = 3 := by
  have h2 : k.toNat = 0 ∨ k.toNat = 1 ∨ k.toNat = 2 ∨ k.toNat = 3 := by omega
  rcases h2 with h | h | h | h
  · exact .inl (UInt8.toNat_inj.1 h)
  · exact .inr (.inl (UInt8.toNat_inj.1 h))
  · exact .inr (.inr (.inl (UInt8.toNat_inj.1 h)))
  · exact .inr (.inr (.inr (UInt8.toNat_inj.1 h)))
theorem kind_big (n : Nd) (h : ¬ n.kind.toNat < 4) : kindP n = false := by
  unfold kindP
  rw [if_neg (fun e => h (by rw [e]; decide)), if_neg (fun e => h (by rw [e]; decide)), if_neg (fun e => h (by rw [e]; decide)), if_neg (fun e => h (by rw [e]; decide))]
set_option maxRecDepth 100000 in
set_option maxHeartbeats 1000000 in
theorem areNodes_any (a : Option Addr) (n cap : Nat) (ns : List Nd) (w : World) (h : Ng w a n cap ns) (hn : n ≤ 1000000) : Calls Tryz.prog 106 #[.slice a n cap] w fun e w' => e = .returned (.bool (nodesP ns)) ∧ Below w.heap.size w w' := by
  have hP : nodesP ns = allTo n (nodeOk ns) := by unfold nodesP; rw [h.len]
  rw [hP]
  clear hP
  have HS := hide storeK
  rcases h.cells with rfl | ⟨b, off, rfl, hb, hc⟩
  · go_enter Tryz.func106, Tryz.ntmps106
    go_wp2_with fail
    refine (kinds_any _).mono ?_
    rintro e w1 ⟨rfl, b1⟩
    go_wp2_with (refine wpList_store_arr _ rfl _ _ tyK rfl _ rfl _ rfl _ (by exact uh HS _) ?_)
    refine wp_loop_rounds 1 ?_
    rw [rounds_succ]
    go_wp2
    go_ret
    exact ⟨rfl, b1.alloc b1.size _⟩
  have HC := hide hc
  clear hc h
  go_enter Tryz.func106, Tryz.ntmps106
  go_wp2_with fail
  refine (kinds_any _).mono ?_
  rintro e w1 ⟨rfl, b1⟩
  go_wp2_with (refine wpList_store_arr _ rfl _ _ tyK rfl _ rfl _ rfl _ (by exact uh HS _) ?_)
  have hs1 := b1.size
  have hrow : Hid ((w1.alloc (.cells kindsA tyK)).heap[w1.heap.size]? = some (.cells kindsA tyK)) := heap_alloc_new w1 _
  have hB2 : Hid (Below w.heap.size w (w1.alloc (.cells kindsA tyK))) := b1.alloc b1.size _
  obtain ⟨g, hg⟩ : ∃ g, g = w1.heap.size := ⟨_, rfl⟩
  rw [← hg] at hrow hs1 ⊢
  generalize w1.alloc (.cells kindsA tyK) = w2 at *
  clear b1 HS hg
  go_loopw [9] (fun i wr => ∃ k : Nat, k ≤ n ∧ i = .int .i64 k ∧ Hid (allTo k (nodeOk ns) = true) ∧ Hid (Below w.heap.size w wr) ∧ Hid (wr.heap[g]? = some (.cells kindsA tyK))) (fun i _ => n - (intOf i).toNat)
  case atStart => exact ⟨0, Nat.zero_le _, rfl, rfl, hB2, hrow⟩
  case round =>
    clear hB2 hrow
    obtain ⟨k, hk, rfl, hall, hnx, hrow⟩ := hrel
    have hsz := (uh hnx).size
    have hgl : g < wr.heap.size := (Array.getElem?_eq_some_iff.1 (uh hrow)).1
    by_cases hlt : k < n
    · have hlt' : (k : Int) < (n : Int) := by omega
      obtain ⟨da, dc, la, lc, h10, hby, heg⟩ := (uh HC k hlt).below hb (uh hnx)
      have hs : Hid (allTo (k + 1) (nodeOk ns) = (allTo k (nodeOk ns) && kindP (nd ns k))) := allTo_succ _ _
      have hf : Hid (kindP (nd ns k) = false → allTo n (nodeOk ns) = false) := fun h => allTo_false (p := nodeOk ns) hlt h
      obtain ⟨m, hm⟩ : ∃ m, m = nd ns k := ⟨_, rfl⟩
      rw [← hm] at h10 heg hs hf
      clear hm hby
      obtain ⟨dl, hdl⟩ : ∃ dl, m.data.length = dl := ⟨_, rfl⟩
      obtain ⟨ll, hll⟩ : ∃ ll, m.list.length = ll := ⟨_, rfl⟩
      rw [hdl, hll] at h10
      rw [hll] at heg
      have hB3 : Hid (∀ o, Below w.heap.size w (wr.alloc o)) := fun o => (uh hnx).alloc hsz o
      have hR3 : Hid (∀ o, (wr.alloc o).heap[g]? = some (.cells kindsA tyK)) := fun o => (Below.heap_alloc wr o g hgl).trans (uh hrow)
      have c0 := h10.c0
      have c1 := h10.c1
      have c2 := h10.c2
      have c3 := h10.c3
      have c4 := h10.c4
      have c5 := h10.c5
      have c6 := h10.c6
      have c7 := h10.c7
      have c8 := h10.c8
      have c9 := h10.c9
      clear h10
      by_cases hk4 : m.kind.toNat < 4
      · obtain ⟨md, hmd⟩ : ∃ x, m.mode = x := ⟨_, rfl⟩
        obtain ⟨us, hus⟩ : ∃ x, m.user = x := ⟨_, rfl⟩
        obtain ⟨gr, hgr⟩ : ∃ x, m.group = x := ⟨_, rfl⟩
        obtain ⟨lk, hlk⟩ : ∃ x, m.links = x := ⟨_, rfl⟩
        obtain ⟨ti, hti⟩ : ∃ x, m.time = x := ⟨_, rfl⟩
        obtain ⟨tg, htg⟩ : ∃ x, m.target = x := ⟨_, rfl⟩
        obtain ⟨pa, hpa⟩ : ∃ x, m.parent = x := ⟨_, rfl⟩
        rw [hmd] at c1
        rw [hus] at c2
        rw [hgr] at c3
        rw [hlk] at c4
        rw [hti] at c5
        rw [htg] at c7
        rw [hpa] at c9
        rcases kind_four m.kind hk4 with hkd | hkd | hkd | hkd
        · have HCk : Hid (∀ W, Below wr.heap.size wr W → Calls Tryz.prog 229 #[.agg #[.int .u8 0, .int .i64 md, .int .i64 us, .int .i64 gr, .int .i64 lk, .int .i64 ti, .slice da dl dc, .string tg, .slice la ll lc, .int .i64 pa]] W fun e w' => e = .returned (.bool (kindP m)) ∧ Below W.heap.size W w') := fun W hW => by
            have q := mayBeFree_any m da dl dc la ll lc W hdl hll (heg.below hW)
            unfold kindP
            rw [hkd]
            obtain ⟨kd, md, us, gr, lk, ti, dt, tg, ls, pa⟩ := m
            simp only at hkd hmd hus hgr hlk hti htg hpa
            subst hkd hmd hus hgr hlk hti htg hpa
            exact q
          have ck := (cell_of_row _ _ _ _ _ _ (uh hrow) : wr.cell? ⟨g, 0, none⟩ = _).trans (show kindsA[0]? = some (fv 229) from rfl)
          rw [hkd] at c0
          have c0' : wr.cell? ⟨b, off + k * 10, none⟩ = some (.int .u8 0) := c0
          clear c0
          generalize kindP m = q at *
          clear hdl hll heg hk4 hkd hmd hus hgr hlk hti htg hpa
          obtain ⟨P, hPe⟩ : ∃ P, P = wr.heap.size := ⟨_, rfl⟩
          obtain ⟨W, hWe⟩ : ∃ W, W = wr.alloc (.cells #[.int .u8 0, .int .i64 md, .int .i64 us, .int .i64 gr, .int .i64 lk, .int .i64 ti, .slice da dl dc, .string tg, .slice la ll lc, .int .i64 pa] 82) := ⟨_, rfl⟩
          have hS0 : W.cell? ⟨P, 0, none⟩ = some (.int .u8 0) ∧ W.cell? ⟨P, 1, none⟩ = some (.int .i64 md) ∧ W.cell? ⟨P, 2, none⟩ = some (.int .i64 us) ∧ W.cell? ⟨P, 3, none⟩ = some (.int .i64 gr) ∧ W.cell? ⟨P, 4, none⟩ = some (.int .i64 lk) ∧ W.cell? ⟨P, 5, none⟩ = some (.int .i64 ti) ∧ W.cell? ⟨P, 6, none⟩ = some (.slice da dl dc) ∧ W.cell? ⟨P, 7, none⟩ = some (.string tg) ∧ W.cell? ⟨P, 8, none⟩ = some (.slice la ll lc) ∧ W.cell? ⟨P, 9, none⟩ = some (.int .i64 pa) ∧ W.cell? ⟨g, 0, none⟩ = some (fv 229) ∧ Fs wr P g W := by
            rw [hWe, hPe]
            refine ⟨by simp, by simp, by simp, by simp, by simp, by simp, by simp, by simp, by simp, by simp, ?_, ⟨(Below.refl _ _).alloc (Nat.le_refl _) _, by simp, by simp; omega⟩⟩
            rw [((Below.refl _ wr).alloc (Nat.le_refl _) _).cell (p := ⟨g, 0, none⟩) hgl]; exact ck
          go_wp2_with fail
          rw [← hPe, ← hWe]
          obtain ⟨e0, e1, e2, e3, e4, e5, e6, e7, e8, e9, e10, eF⟩ := hS0
          have f0 : W.drew.cell? ⟨P, 0, none⟩ = some (.int .u8 0) := e0
          have f1 : W.drew.cell? ⟨P, 1, none⟩ = some (.int .i64 md) := e1
          have f2 : W.drew.cell? ⟨P, 2, none⟩ = some (.int .i64 us) := e2
          have f3 : W.drew.cell? ⟨P, 3, none⟩ = some (.int .i64 gr) := e3
          have f4 : W.drew.cell? ⟨P, 4, none⟩ = some (.int .i64 lk) := e4
          have f5 : W.drew.cell? ⟨P, 5, none⟩ = some (.int .i64 ti) := e5
          have f6 : W.drew.cell? ⟨P, 6, none⟩ = some (.slice da dl dc) := e6
          have f7 : W.drew.cell? ⟨P, 7, none⟩ = some (.string tg) := e7
          have f8 : W.drew.cell? ⟨P, 8, none⟩ = some (.slice la ll lc) := e8
          have f9 : W.drew.cell? ⟨P, 9, none⟩ = some (.int .i64 pa) := e9
          have f10 : W.drew.cell? ⟨g, 0, none⟩ = some (fv 229) := e10
          have fF : Fs wr P g W.drew := ⟨⟨eF.1.os, eF.1.tape, eF.1.output, eF.1.size, eF.1.block⟩, eF.2, eF.3⟩
          have hBd : Hid (∀ W', Fs wr P g W' → Below wr.heap.size wr W') := fun _ h => h.below
          have hRd : Hid (∀ W', Below wr.heap.size wr W' → W'.heap[g]? = some (.cells kindsA tyK)) := fun W' h => (h.block g hgl).trans (uh hrow)
          have hnw : Hid (∀ W', Below wr.heap.size wr W' → Below w.heap.size w W') := fun W' h => (uh hnx).trans (h.mono hsz)
          clear e0 e1 e2 e3 e4 e5 e6 e7 e8 e9 e10 eF hWe hPe ck c0' c1 c2 c3 c4 c5 c6 c7 c8 c9 hB3 hR3 hrow hnx
          have hS1 : W.drew.cell? ⟨P, 0, none⟩ = some (.int .u8 0) ∧ W.drew.cell? ⟨P, 1, none⟩ = some (.int .i64 md) ∧ W.drew.cell? ⟨P, 2, none⟩ = some (.int .i64 us) ∧ W.drew.cell? ⟨P, 3, none⟩ = some (.int .i64 gr) ∧ W.drew.cell? ⟨P, 4, none⟩ = some (.int .i64 lk) ∧ W.drew.cell? ⟨P, 5, none⟩ = some (.int .i64 ti) ∧ W.drew.cell? ⟨P, 6, none⟩ = some (.slice da dl dc) ∧ W.drew.cell? ⟨P, 7, none⟩ = some (.string tg) ∧ W.drew.cell? ⟨P, 8, none⟩ = some (.slice la ll lc) ∧ W.drew.cell? ⟨P, 9, none⟩ = some (.int .i64 pa) ∧ W.drew.cell? ⟨g, 0, none⟩ = some (fv 229) ∧ Fs wr P g W.drew := ⟨f0, f1, f2, f3, f4, f5, f6, f7, f8, f9, f10, fF⟩
          have hS10 : Hid (∀ W1 W2, (W1.cell? ⟨P, 0, none⟩ = some (.int .u8 0) ∧ W1.cell? ⟨P, 1, none⟩ = some (.int .i64 md) ∧ W1.cell? ⟨P, 2, none⟩ = some (.int .i64 us) ∧ W1.cell? ⟨P, 3, none⟩ = some (.int .i64 gr) ∧ W1.cell? ⟨P, 4, none⟩ = some (.int .i64 lk) ∧ W1.cell? ⟨P, 5, none⟩ = some (.int .i64 ti) ∧ W1.cell? ⟨P, 6, none⟩ = some (.slice da dl dc) ∧ W1.cell? ⟨P, 7, none⟩ = some (.string tg) ∧ W1.cell? ⟨P, 8, none⟩ = some (.slice la ll lc) ∧ W1.cell? ⟨P, 9, none⟩ = some (.int .i64 pa) ∧ W1.cell? ⟨g, 0, none⟩ = some (fv 229) ∧ Fs wr P g W1) → Below W1.heap.size W1 W2 → (W2.cell? ⟨P, 0, none⟩ = some (.int .u8 0) ∧ W2.cell? ⟨P, 1, none⟩ = some (.int .i64 md) ∧ W2.cell? ⟨P, 2, none⟩ = some (.int .i64 us) ∧ W2.cell? ⟨P, 3, none⟩ = some (.int .i64 gr) ∧ W2.cell? ⟨P, 4, none⟩ = some (.int .i64 lk) ∧ W2.cell? ⟨P, 5, none⟩ = some (.int .i64 ti) ∧ W2.cell? ⟨P, 6, none⟩ = some (.slice da dl dc) ∧ W2.cell? ⟨P, 7, none⟩ = some (.string tg) ∧ W2.cell? ⟨P, 8, none⟩ = some (.slice la ll lc) ∧ W2.cell? ⟨P, 9, none⟩ = some (.int .i64 pa) ∧ W2.cell? ⟨g, 0, none⟩ = some (fv 229) ∧ Fs wr P g W2)) := by
            intro W1 W2 h hb
            obtain ⟨h0, h1, h2, h3, h4, h5, h6, h7, h8, h9, h10, ⟨h11, h12, h13⟩⟩ := h
            exact ⟨(hb.cell h12).trans h0, (hb.cell h12).trans h1, (hb.cell h12).trans h2, (hb.cell h12).trans h3, (hb.cell h12).trans h4, (hb.cell h12).trans h5, (hb.cell h12).trans h6, (hb.cell h12).trans h7, (hb.cell h12).trans h8, (hb.cell h12).trans h9, (hb.cell h13).trans h10, ⟨h11.trans (hb.mono h11.size), Nat.lt_of_lt_of_le h12 hb.size, Nat.lt_of_lt_of_le h13 hb.size⟩⟩
          go_region_held3 (fun w' => w'.cell? ⟨P, 0, none⟩ = some (.int .u8 0) ∧ w'.cell? ⟨P, 1, none⟩ = some (.int .i64 md) ∧ w'.cell? ⟨P, 2, none⟩ = some (.int .i64 us) ∧ w'.cell? ⟨P, 3, none⟩ = some (.int .i64 gr) ∧ w'.cell? ⟨P, 4, none⟩ = some (.int .i64 lk) ∧ w'.cell? ⟨P, 5, none⟩ = some (.int .i64 ti) ∧ w'.cell? ⟨P, 6, none⟩ = some (.slice da dl dc) ∧ w'.cell? ⟨P, 7, none⟩ = some (.string tg) ∧ w'.cell? ⟨P, 8, none⟩ = some (.slice la ll lc) ∧ w'.cell? ⟨P, 9, none⟩ = some (.int .i64 pa) ∧ w'.cell? ⟨g, 0, none⟩ = some (fv 229) ∧ Fs wr P g w') (first | assumption | go_keep)
            (first | ((with_reducible refine (uh HCk _ (uh hBd _ fF)).mono ?_); rintro e w3 ⟨rfl, b3⟩; have hS3 := uh hS10 _ _ hS1 b3; clear b3) | fail)
          have hw : decide ((4 : Int) ≤ IntKind.i64.wrap 0) = false := by rw [wrap_small _ (by omega) (by omega)]; rfl
          have hb3 := uh hBd _ hS3.2.2.2.2.2.2.2.2.2.2.2
          have hF3 := hide (uh hRd _ hb3)
          have hN3 := hide (uh hnw _ hb3)
          rw [hw, Bool.false_or]
          clear hw hb3 hS10 HCk hBd hRd hnw hS1 f0 f1 f2 f3 f4 f5 f6 f7 f8 f9 f10 fF hS3
          cases q with
          | false =>
            have hF := hide (uh hf rfl)
            go_wp2
            go_ret
            exact ⟨by rw [uh hF]; rfl, uh hN3⟩
          | true =>
            go_wp2
            go_roundw
            case rel => exact ⟨k + 1, by omega, by go_num, hide (by rw [uh hs, uh hall]; rfl), hN3, hF3⟩
            case measure => simp [intOf]; omega
        · have HCk : Hid (∀ W, Below wr.heap.size wr W → Calls Tryz.prog 230 #[.agg #[.int .u8 1, .int .i64 md, .int .i64 us, .int .i64 gr, .int .i64 lk, .int .i64 ti, .slice da dl dc, .string tg, .slice la ll lc, .int .i64 pa]] W fun e w' => e = .returned (.bool (kindP m)) ∧ Below W.heap.size W w') := fun W hW => by
            have q := mayBeFile_any m da dl dc la ll lc W hdl hll (heg.below hW)
            unfold kindP
            rw [hkd]
            obtain ⟨kd, md, us, gr, lk, ti, dt, tg, ls, pa⟩ := m
            simp only at hkd hmd hus hgr hlk hti htg hpa
            subst hkd hmd hus hgr hlk hti htg hpa
            exact q
          have ck := (cell_of_row _ _ _ _ _ _ (uh hrow) : wr.cell? ⟨g, 1, none⟩ = _).trans (show kindsA[1]? = some (fv 230) from rfl)
          rw [hkd] at c0
          have c0' : wr.cell? ⟨b, off + k * 10, none⟩ = some (.int .u8 1) := c0
          clear c0
          generalize kindP m = q at *
          clear hdl hll heg hk4 hkd hmd hus hgr hlk hti htg hpa
          obtain ⟨P, hPe⟩ : ∃ P, P = wr.heap.size := ⟨_, rfl⟩
          obtain ⟨W, hWe⟩ : ∃ W, W = wr.alloc (.cells #[.int .u8 1, .int .i64 md, .int .i64 us, .int .i64 gr, .int .i64 lk, .int .i64 ti, .slice da dl dc, .string tg, .slice la ll lc, .int .i64 pa] 82) := ⟨_, rfl⟩
          have hS0 : W.cell? ⟨P, 0, none⟩ = some (.int .u8 1) ∧ W.cell? ⟨P, 1, none⟩ = some (.int .i64 md) ∧ W.cell? ⟨P, 2, none⟩ = some (.int .i64 us) ∧ W.cell? ⟨P, 3, none⟩ = some (.int .i64 gr) ∧ W.cell? ⟨P, 4, none⟩ = some (.int .i64 lk) ∧ W.cell? ⟨P, 5, none⟩ = some (.int .i64 ti) ∧ W.cell? ⟨P, 6, none⟩ = some (.slice da dl dc) ∧ W.cell? ⟨P, 7, none⟩ = some (.string tg) ∧ W.cell? ⟨P, 8, none⟩ = some (.slice la ll lc) ∧ W.cell? ⟨P, 9, none⟩ = some (.int .i64 pa) ∧ W.cell? ⟨g, 1, none⟩ = some (fv 230) ∧ Fs wr P g W := by
            rw [hWe, hPe]
            refine ⟨by simp, by simp, by simp, by simp, by simp, by simp, by simp, by simp, by simp, by simp, ?_, ⟨(Below.refl _ _).alloc (Nat.le_refl _) _, by simp, by simp; omega⟩⟩
            rw [((Below.refl _ wr).alloc (Nat.le_refl _) _).cell (p := ⟨g, 1, none⟩) hgl]; exact ck
          go_wp2_with fail
          rw [← hPe, ← hWe]
          obtain ⟨e0, e1, e2, e3, e4, e5, e6, e7, e8, e9, e10, eF⟩ := hS0
          have f0 : W.drew.cell? ⟨P, 0, none⟩ = some (.int .u8 1) := e0
          have f1 : W.drew.cell? ⟨P, 1, none⟩ = some (.int .i64 md) := e1
          have f2 : W.drew.cell? ⟨P, 2, none⟩ = some (.int .i64 us) := e2
          have f3 : W.drew.cell? ⟨P, 3, none⟩ = some (.int .i64 gr) := e3
          have f4 : W.drew.cell? ⟨P, 4, none⟩ = some (.int .i64 lk) := e4
          have f5 : W.drew.cell? ⟨P, 5, none⟩ = some (.int .i64 ti) := e5
          have f6 : W.drew.cell? ⟨P, 6, none⟩ = some (.slice da dl dc) := e6
          have f7 : W.drew.cell? ⟨P, 7, none⟩ = some (.string tg) := e7
          have f8 : W.drew.cell? ⟨P, 8, none⟩ = some (.slice la ll lc) := e8
          have f9 : W.drew.cell? ⟨P, 9, none⟩ = some (.int .i64 pa) := e9
          have f10 : W.drew.cell? ⟨g, 1, none⟩ = some (fv 230) := e10
          have fF : Fs wr P g W.drew := ⟨⟨eF.1.os, eF.1.tape, eF.1.output, eF.1.size, eF.1.block⟩, eF.2, eF.3⟩
          have hBd : Hid (∀ W', Fs wr P g W' → Below wr.heap.size wr W') := fun _ h => h.below
          have hRd : Hid (∀ W', Below wr.heap.size wr W' → W'.heap[g]? = some (.cells kindsA tyK)) := fun W' h => (h.block g hgl).trans (uh hrow)
          have hnw : Hid (∀ W', Below wr.heap.size wr W' → Below w.heap.size w W') := fun W' h => (uh hnx).trans (h.mono hsz)
          clear e0 e1 e2 e3 e4 e5 e6 e7 e8 e9 e10 eF hWe hPe ck c0' c1 c2 c3 c4 c5 c6 c7 c8 c9 hB3 hR3 hrow hnx
          have hS1 : W.drew.cell? ⟨P, 0, none⟩ = some (.int .u8 1) ∧ W.drew.cell? ⟨P, 1, none⟩ = some (.int .i64 md) ∧ W.drew.cell? ⟨P, 2, none⟩ = some (.int .i64 us) ∧ W.drew.cell? ⟨P, 3, none⟩ = some (.int .i64 gr) ∧ W.drew.cell? ⟨P, 4, none⟩ = some (.int .i64 lk) ∧ W.drew.cell? ⟨P, 5, none⟩ = some (.int .i64 ti) ∧ W.drew.cell? ⟨P, 6, none⟩ = some (.slice da dl dc) ∧ W.drew.cell? ⟨P, 7, none⟩ = some (.string tg) ∧ W.drew.cell? ⟨P, 8, none⟩ = some (.slice la ll lc) ∧ W.drew.cell? ⟨P, 9, none⟩ = some (.int .i64 pa) ∧ W.drew.cell? ⟨g, 1, none⟩ = some (fv 230) ∧ Fs wr P g W.drew := ⟨f0, f1, f2, f3, f4, f5, f6, f7, f8, f9, f10, fF⟩
          have hS10 : Hid (∀ W1 W2, (W1.cell? ⟨P, 0, none⟩ = some (.int .u8 1) ∧ W1.cell? ⟨P, 1, none⟩ = some (.int .i64 md) ∧ W1.cell? ⟨P, 2, none⟩ = some (.int .i64 us) ∧ W1.cell? ⟨P, 3, none⟩ = some (.int .i64 gr) ∧ W1.cell? ⟨P, 4, none⟩ = some (.int .i64 lk) ∧ W1.cell? ⟨P, 5, none⟩ = some (.int .i64 ti) ∧ W1.cell? ⟨P, 6, none⟩ = some (.slice da dl dc) ∧ W1.cell? ⟨P, 7, none⟩ = some (.string tg) ∧ W1.cell? ⟨P, 8, none⟩ = some (.slice la ll lc) ∧ W1.cell? ⟨P, 9, none⟩ = some (.int .i64 pa) ∧ W1.cell? ⟨g, 1, none⟩ = some (fv 230) ∧ Fs wr P g W1) → Below W1.heap.size W1 W2 → (W2.cell? ⟨P, 0, none⟩ = some (.int .u8 1) ∧ W2.cell? ⟨P, 1, none⟩ = some (.int .i64 md) ∧ W2.cell? ⟨P, 2, none⟩ = some (.int .i64 us) ∧ W2.cell? ⟨P, 3, none⟩ = some (.int .i64 gr) ∧ W2.cell? ⟨P, 4, none⟩ = some (.int .i64 lk) ∧ W2.cell? ⟨P, 5, none⟩ = some (.int .i64 ti) ∧ W2.cell? ⟨P, 6, none⟩ = some (.slice da dl dc) ∧ W2.cell? ⟨P, 7, none⟩ = some (.string tg) ∧ W2.cell? ⟨P, 8, none⟩ = some (.slice la ll lc) ∧ W2.cell? ⟨P, 9, none⟩ = some (.int .i64 pa) ∧ W2.cell? ⟨g, 1, none⟩ = some (fv 230) ∧ Fs wr P g W2)) := by
            intro W1 W2 h hb
            obtain ⟨h0, h1, h2, h3, h4, h5, h6, h7, h8, h9, h10, ⟨h11, h12, h13⟩⟩ := h
            exact ⟨(hb.cell h12).trans h0, (hb.cell h12).trans h1, (hb.cell h12).trans h2, (hb.cell h12).trans h3, (hb.cell h12).trans h4, (hb.cell h12).trans h5, (hb.cell h12).trans h6, (hb.cell h12).trans h7, (hb.cell h12).trans h8, (hb.cell h12).trans h9, (hb.cell h13).trans h10, ⟨h11.trans (hb.mono h11.size), Nat.lt_of_lt_of_le h12 hb.size, Nat.lt_of_lt_of_le h13 hb.size⟩⟩
          go_region_held3 (fun w' => w'.cell? ⟨P, 0, none⟩ = some (.int .u8 1) ∧ w'.cell? ⟨P, 1, none⟩ = some (.int .i64 md) ∧ w'.cell? ⟨P, 2, none⟩ = some (.int .i64 us) ∧ w'.cell? ⟨P, 3, none⟩ = some (.int .i64 gr) ∧ w'.cell? ⟨P, 4, none⟩ = some (.int .i64 lk) ∧ w'.cell? ⟨P, 5, none⟩ = some (.int .i64 ti) ∧ w'.cell? ⟨P, 6, none⟩ = some (.slice da dl dc) ∧ w'.cell? ⟨P, 7, none⟩ = some (.string tg) ∧ w'.cell? ⟨P, 8, none⟩ = some (.slice la ll lc) ∧ w'.cell? ⟨P, 9, none⟩ = some (.int .i64 pa) ∧ w'.cell? ⟨g, 1, none⟩ = some (fv 230) ∧ Fs wr P g w') (first | assumption | go_keep)
            (first | ((with_reducible refine (uh HCk _ (uh hBd _ fF)).mono ?_); rintro e w3 ⟨rfl, b3⟩; have hS3 := uh hS10 _ _ hS1 b3; clear b3) | fail)
          have hw : decide ((4 : Int) ≤ IntKind.i64.wrap 1) = false := by rw [wrap_small _ (by omega) (by omega)]; rfl
          have hb3 := uh hBd _ hS3.2.2.2.2.2.2.2.2.2.2.2
          have hF3 := hide (uh hRd _ hb3)
          have hN3 := hide (uh hnw _ hb3)
          rw [hw, Bool.false_or]
          clear hw hb3 hS10 HCk hBd hRd hnw hS1 f0 f1 f2 f3 f4 f5 f6 f7 f8 f9 f10 fF hS3
          cases q with
          | false =>
            have hF := hide (uh hf rfl)
            go_wp2
            go_ret
            exact ⟨by rw [uh hF]; rfl, uh hN3⟩
          | true =>
            go_wp2
            go_roundw
            case rel => exact ⟨k + 1, by omega, by go_num, hide (by rw [uh hs, uh hall]; rfl), hN3, hF3⟩
            case measure => simp [intOf]; omega
        · have HCk : Hid (∀ W, Below wr.heap.size wr W → Calls Tryz.prog 231 #[.agg #[.int .u8 2, .int .i64 md, .int .i64 us, .int .i64 gr, .int .i64 lk, .int .i64 ti, .slice da dl dc, .string tg, .slice la ll lc, .int .i64 pa]] W fun e w' => e = .returned (.bool (kindP m)) ∧ Below W.heap.size W w') := fun W hW => by
            have q := mayBeDir_any m da dl dc la ll lc W hdl hll (heg.below hW)
            unfold kindP
            rw [hkd]
            obtain ⟨kd, md, us, gr, lk, ti, dt, tg, ls, pa⟩ := m
            simp only at hkd hmd hus hgr hlk hti htg hpa
            subst hkd hmd hus hgr hlk hti htg hpa
            exact q
          have ck := (cell_of_row _ _ _ _ _ _ (uh hrow) : wr.cell? ⟨g, 2, none⟩ = _).trans (show kindsA[2]? = some (fv 231) from rfl)
          rw [hkd] at c0
          have c0' : wr.cell? ⟨b, off + k * 10, none⟩ = some (.int .u8 2) := c0
          clear c0
          generalize kindP m = q at *
          clear hdl hll heg hk4 hkd hmd hus hgr hlk hti htg hpa
          obtain ⟨P, hPe⟩ : ∃ P, P = wr.heap.size := ⟨_, rfl⟩
          obtain ⟨W, hWe⟩ : ∃ W, W = wr.alloc (.cells #[.int .u8 2, .int .i64 md, .int .i64 us, .int .i64 gr, .int .i64 lk, .int .i64 ti, .slice da dl dc, .string tg, .slice la ll lc, .int .i64 pa] 82) := ⟨_, rfl⟩
          have hS0 : W.cell? ⟨P, 0, none⟩ = some (.int .u8 2) ∧ W.cell? ⟨P, 1, none⟩ = some (.int .i64 md) ∧ W.cell? ⟨P, 2, none⟩ = some (.int .i64 us) ∧ W.cell? ⟨P, 3, none⟩ = some (.int .i64 gr) ∧ W.cell? ⟨P, 4, none⟩ = some (.int .i64 lk) ∧ W.cell? ⟨P, 5, none⟩ = some (.int .i64 ti) ∧ W.cell? ⟨P, 6, none⟩ = some (.slice da dl dc) ∧ W.cell? ⟨P, 7, none⟩ = some (.string tg) ∧ W.cell? ⟨P, 8, none⟩ = some (.slice la ll lc) ∧ W.cell? ⟨P, 9, none⟩ = some (.int .i64 pa) ∧ W.cell? ⟨g, 2, none⟩ = some (fv 231) ∧ Fs wr P g W := by
            rw [hWe, hPe]
            refine ⟨by simp, by simp, by simp, by simp, by simp, by simp, by simp, by simp, by simp, by simp, ?_, ⟨(Below.refl _ _).alloc (Nat.le_refl _) _, by simp, by simp; omega⟩⟩
            rw [((Below.refl _ wr).alloc (Nat.le_refl _) _).cell (p := ⟨g, 2, none⟩) hgl]; exact ck
          go_wp2_with fail
          rw [← hPe, ← hWe]
          obtain ⟨e0, e1, e2, e3, e4, e5, e6, e7, e8, e9, e10, eF⟩ := hS0
          have f0 : W.drew.cell? ⟨P, 0, none⟩ = some (.int .u8 2) := e0
          have f1 : W.drew.cell? ⟨P, 1, none⟩ = some (.int .i64 md) := e1
          have f2 : W.drew.cell? ⟨P, 2, none⟩ = some (.int .i64 us) := e2
          have f3 : W.drew.cell? ⟨P, 3, none⟩ = some (.int .i64 gr) := e3
          have f4 : W.drew.cell? ⟨P, 4, none⟩ = some (.int .i64 lk) := e4
          have f5 : W.drew.cell? ⟨P, 5, none⟩ = some (.int .i64 ti) := e5
          have f6 : W.drew.cell? ⟨P, 6, none⟩ = some (.slice da dl dc) := e6
          have f7 : W.drew.cell? ⟨P, 7, none⟩ = some (.string tg) := e7
          have f8 : W.drew.cell? ⟨P, 8, none⟩ = some (.slice la ll lc) := e8
          have f9 : W.drew.cell? ⟨P, 9, none⟩ = some (.int .i64 pa) := e9
          have f10 : W.drew.cell? ⟨g, 2, none⟩ = some (fv 231) := e10
          have fF : Fs wr P g W.drew := ⟨⟨eF.1.os, eF.1.tape, eF.1.output, eF.1.size, eF.1.block⟩, eF.2, eF.3⟩
          have hBd : Hid (∀ W', Fs wr P g W' → Below wr.heap.size wr W') := fun _ h => h.below
          have hRd : Hid (∀ W', Below wr.heap.size wr W' → W'.heap[g]? = some (.cells kindsA tyK)) := fun W' h => (h.block g hgl).trans (uh hrow)
          have hnw : Hid (∀ W', Below wr.heap.size wr W' → Below w.heap.size w W') := fun W' h => (uh hnx).trans (h.mono hsz)
          clear e0 e1 e2 e3 e4 e5 e6 e7 e8 e9 e10 eF hWe hPe ck c0' c1 c2 c3 c4 c5 c6 c7 c8 c9 hB3 hR3 hrow hnx
          have hS1 : W.drew.cell? ⟨P, 0, none⟩ = some (.int .u8 2) ∧ W.drew.cell? ⟨P, 1, none⟩ = some (.int .i64 md) ∧ W.drew.cell? ⟨P, 2, none⟩ = some (.int .i64 us) ∧ W.drew.cell? ⟨P, 3, none⟩ = some (.int .i64 gr) ∧ W.drew.cell? ⟨P, 4, none⟩ = some (.int .i64 lk) ∧ W.drew.cell? ⟨P, 5, none⟩ = some (.int .i64 ti) ∧ W.drew.cell? ⟨P, 6, none⟩ = some (.slice da dl dc) ∧ W.drew.cell? ⟨P, 7, none⟩ = some (.string tg) ∧ W.drew.cell? ⟨P, 8, none⟩ = some (.slice la ll lc) ∧ W.drew.cell? ⟨P, 9, none⟩ = some (.int .i64 pa) ∧ W.drew.cell? ⟨g, 2, none⟩ = some (fv 231) ∧ Fs wr P g W.drew := ⟨f0, f1, f2, f3, f4, f5, f6, f7, f8, f9, f10, fF⟩
          have hS10 : Hid (∀ W1 W2, (W1.cell? ⟨P, 0, none⟩ = some (.int .u8 2) ∧ W1.cell? ⟨P, 1, none⟩ = some (.int .i64 md) ∧ W1.cell? ⟨P, 2, none⟩ = some (.int .i64 us) ∧ W1.cell? ⟨P, 3, none⟩ = some (.int .i64 gr) ∧ W1.cell? ⟨P, 4, none⟩ = some (.int .i64 lk) ∧ W1.cell? ⟨P, 5, none⟩ = some (.int .i64 ti) ∧ W1.cell? ⟨P, 6, none⟩ = some (.slice da dl dc) ∧ W1.cell? ⟨P, 7, none⟩ = some (.string tg) ∧ W1.cell? ⟨P, 8, none⟩ = some (.slice la ll lc) ∧ W1.cell? ⟨P, 9, none⟩ = some (.int .i64 pa) ∧ W1.cell? ⟨g, 2, none⟩ = some (fv 231) ∧ Fs wr P g W1) → Below W1.heap.size W1 W2 → (W2.cell? ⟨P, 0, none⟩ = some (.int .u8 2) ∧ W2.cell? ⟨P, 1, none⟩ = some (.int .i64 md) ∧ W2.cell? ⟨P, 2, none⟩ = some (.int .i64 us) ∧ W2.cell? ⟨P, 3, none⟩ = some (.int .i64 gr) ∧ W2.cell? ⟨P, 4, none⟩ = some (.int .i64 lk) ∧ W2.cell? ⟨P, 5, none⟩ = some (.int .i64 ti) ∧ W2.cell? ⟨P, 6, none⟩ = some (.slice da dl dc) ∧ W2.cell? ⟨P, 7, none⟩ = some (.string tg) ∧ W2.cell? ⟨P, 8, none⟩ = some (.slice la ll lc) ∧ W2.cell? ⟨P, 9, none⟩ = some (.int .i64 pa) ∧ W2.cell? ⟨g, 2, none⟩ = some (fv 231) ∧ Fs wr P g W2)) := by
            intro W1 W2 h hb
            obtain ⟨h0, h1, h2, h3, h4, h5, h6, h7, h8, h9, h10, ⟨h11, h12, h13⟩⟩ := h
            exact ⟨(hb.cell h12).trans h0, (hb.cell h12).trans h1, (hb.cell h12).trans h2, (hb.cell h12).trans h3, (hb.cell h12).trans h4, (hb.cell h12).trans h5, (hb.cell h12).trans h6, (hb.cell h12).trans h7, (hb.cell h12).trans h8, (hb.cell h12).trans h9, (hb.cell h13).trans h10, ⟨h11.trans (hb.mono h11.size), Nat.lt_of_lt_of_le h12 hb.size, Nat.lt_of_lt_of_le h13 hb.size⟩⟩
          go_region_held3 (fun w' => w'.cell? ⟨P, 0, none⟩ = some (.int .u8 2) ∧ w'.cell? ⟨P, 1, none⟩ = some (.int .i64 md) ∧ w'.cell? ⟨P, 2, none⟩ = some (.int .i64 us) ∧ w'.cell? ⟨P, 3, none⟩ = some (.int .i64 gr) ∧ w'.cell? ⟨P, 4, none⟩ = some (.int .i64 lk) ∧ w'.cell? ⟨P, 5, none⟩ = some (.int .i64 ti) ∧ w'.cell? ⟨P, 6, none⟩ = some (.slice da dl dc) ∧ w'.cell? ⟨P, 7, none⟩ = some (.string tg) ∧ w'.cell? ⟨P, 8, none⟩ = some (.slice la ll lc) ∧ w'.cell? ⟨P, 9, none⟩ = some (.int .i64 pa) ∧ w'.cell? ⟨g, 2, none⟩ = some (fv 231) ∧ Fs wr P g w') (first | assumption | go_keep)
            (first | ((with_reducible refine (uh HCk _ (uh hBd _ fF)).mono ?_); rintro e w3 ⟨rfl, b3⟩; have hS3 := uh hS10 _ _ hS1 b3; clear b3) | fail)
          have hw : decide ((4 : Int) ≤ IntKind.i64.wrap 2) = false := by rw [wrap_small _ (by omega) (by omega)]; rfl
          have hb3 := uh hBd _ hS3.2.2.2.2.2.2.2.2.2.2.2
          have hF3 := hide (uh hRd _ hb3)
          have hN3 := hide (uh hnw _ hb3)
          rw [hw, Bool.false_or]
          clear hw hb3 hS10 HCk hBd hRd hnw hS1 f0 f1 f2 f3 f4 f5 f6 f7 f8 f9 f10 fF hS3
          cases q with
          | false =>
            have hF := hide (uh hf rfl)
            go_wp2
            go_ret
            exact ⟨by rw [uh hF]; rfl, uh hN3⟩
          | true =>
            go_wp2
            go_roundw
            case rel => exact ⟨k + 1, by omega, by go_num, hide (by rw [uh hs, uh hall]; rfl), hN3, hF3⟩
            case measure => simp [intOf]; omega
        · have HCk : Hid (∀ W, Below wr.heap.size wr W → Calls Tryz.prog 232 #[.agg #[.int .u8 3, .int .i64 md, .int .i64 us, .int .i64 gr, .int .i64 lk, .int .i64 ti, .slice da dl dc, .string tg, .slice la ll lc, .int .i64 pa]] W fun e w' => e = .returned (.bool (kindP m)) ∧ Below W.heap.size W w') := fun W hW => by
            have q := mayBeLink_any m da dl dc la ll lc W hdl hll (heg.below hW)
            unfold kindP
            rw [hkd]
            obtain ⟨kd, md, us, gr, lk, ti, dt, tg, ls, pa⟩ := m
            simp only at hkd hmd hus hgr hlk hti htg hpa
            subst hkd hmd hus hgr hlk hti htg hpa
            exact q
          have ck := (cell_of_row _ _ _ _ _ _ (uh hrow) : wr.cell? ⟨g, 3, none⟩ = _).trans (show kindsA[3]? = some (fv 232) from rfl)
          rw [hkd] at c0
          have c0' : wr.cell? ⟨b, off + k * 10, none⟩ = some (.int .u8 3) := c0
          clear c0
          generalize kindP m = q at *
          clear hdl hll heg hk4 hkd hmd hus hgr hlk hti htg hpa
          obtain ⟨P, hPe⟩ : ∃ P, P = wr.heap.size := ⟨_, rfl⟩
          obtain ⟨W, hWe⟩ : ∃ W, W = wr.alloc (.cells #[.int .u8 3, .int .i64 md, .int .i64 us, .int .i64 gr, .int .i64 lk, .int .i64 ti, .slice da dl dc, .string tg, .slice la ll lc, .int .i64 pa] 82) := ⟨_, rfl⟩
          have hS0 : W.cell? ⟨P, 0, none⟩ = some (.int .u8 3) ∧ W.cell? ⟨P, 1, none⟩ = some (.int .i64 md) ∧ W.cell? ⟨P, 2, none⟩ = some (.int .i64 us) ∧ W.cell? ⟨P, 3, none⟩ = some (.int .i64 gr) ∧ W.cell? ⟨P, 4, none⟩ = some (.int .i64 lk) ∧ W.cell? ⟨P, 5, none⟩ = some (.int .i64 ti) ∧ W.cell? ⟨P, 6, none⟩ = some (.slice da dl dc) ∧ W.cell? ⟨P, 7, none⟩ = some (.string tg) ∧ W.cell? ⟨P, 8, none⟩ = some (.slice la ll lc) ∧ W.cell? ⟨P, 9, none⟩ = some (.int .i64 pa) ∧ W.cell? ⟨g, 3, none⟩ = some (fv 232) ∧ Fs wr P g W := by
            rw [hWe, hPe]
            refine ⟨by simp, by simp, by simp, by simp, by simp, by simp, by simp, by simp, by simp, by simp, ?_, ⟨(Below.refl _ _).alloc (Nat.le_refl _) _, by simp, by simp; omega⟩⟩
            rw [((Below.refl _ wr).alloc (Nat.le_refl _) _).cell (p := ⟨g, 3, none⟩) hgl]; exact ck
          go_wp2_with fail
          rw [← hPe, ← hWe]
          obtain ⟨e0, e1, e2, e3, e4, e5, e6, e7, e8, e9, e10, eF⟩ := hS0
          have f0 : W.drew.cell? ⟨P, 0, none⟩ = some (.int .u8 3) := e0
          have f1 : W.drew.cell? ⟨P, 1, none⟩ = some (.int .i64 md) := e1
          have f2 : W.drew.cell? ⟨P, 2, none⟩ = some (.int .i64 us) := e2
          have f3 : W.drew.cell? ⟨P, 3, none⟩ = some (.int .i64 gr) := e3
          have f4 : W.drew.cell? ⟨P, 4, none⟩ = some (.int .i64 lk) := e4
          have f5 : W.drew.cell? ⟨P, 5, none⟩ = some (.int .i64 ti) := e5
          have f6 : W.drew.cell? ⟨P, 6, none⟩ = some (.slice da dl dc) := e6
          have f7 : W.drew.cell? ⟨P, 7, none⟩ = some (.string tg) := e7
          have f8 : W.drew.cell? ⟨P, 8, none⟩ = some (.slice la ll lc) := e8
          have f9 : W.drew.cell? ⟨P, 9, none⟩ = some (.int .i64 pa) := e9
          have f10 : W.drew.cell? ⟨g, 3, none⟩ = some (fv 232) := e10
          have fF : Fs wr P g W.drew := ⟨⟨eF.1.os, eF.1.tape, eF.1.output, eF.1.size, eF.1.block⟩, eF.2, eF.3⟩
          have hBd : Hid (∀ W', Fs wr P g W' → Below wr.heap.size wr W') := fun _ h => h.below
          have hRd : Hid (∀ W', Below wr.heap.size wr W' → W'.heap[g]? = some (.cells kindsA tyK)) := fun W' h => (h.block g hgl).trans (uh hrow)
          have hnw : Hid (∀ W', Below wr.heap.size wr W' → Below w.heap.size w W') := fun W' h => (uh hnx).trans (h.mono hsz)
          clear e0 e1 e2 e3 e4 e5 e6 e7 e8 e9 e10 eF hWe hPe ck c0' c1 c2 c3 c4 c5 c6 c7 c8 c9 hB3 hR3 hrow hnx
          have hS1 : W.drew.cell? ⟨P, 0, none⟩ = some (.int .u8 3) ∧ W.drew.cell? ⟨P, 1, none⟩ = some (.int .i64 md) ∧ W.drew.cell? ⟨P, 2, none⟩ = some (.int .i64 us) ∧ W.drew.cell? ⟨P, 3, none⟩ = some (.int .i64 gr) ∧ W.drew.cell? ⟨P, 4, none⟩ = some (.int .i64 lk) ∧ W.drew.cell? ⟨P, 5, none⟩ = some (.int .i64 ti) ∧ W.drew.cell? ⟨P, 6, none⟩ = some (.slice da dl dc) ∧ W.drew.cell? ⟨P, 7, none⟩ = some (.string tg) ∧ W.drew.cell? ⟨P, 8, none⟩ = some (.slice la ll lc) ∧ W.drew.cell? ⟨P, 9, none⟩ = some (.int .i64 pa) ∧ W.drew.cell? ⟨g, 3, none⟩ = some (fv 232) ∧ Fs wr P g W.drew := ⟨f0, f1, f2, f3, f4, f5, f6, f7, f8, f9, f10, fF⟩
          have hS10 : Hid (∀ W1 W2, (W1.cell? ⟨P, 0, none⟩ = some (.int .u8 3) ∧ W1.cell? ⟨P, 1, none⟩ = some (.int .i64 md) ∧ W1.cell? ⟨P, 2, none⟩ = some (.int .i64 us) ∧ W1.cell? ⟨P, 3, none⟩ = some (.int .i64 gr) ∧ W1.cell? ⟨P, 4, none⟩ = some (.int .i64 lk) ∧ W1.cell? ⟨P, 5, none⟩ = some (.int .i64 ti) ∧ W1.cell? ⟨P, 6, none⟩ = some (.slice da dl dc) ∧ W1.cell? ⟨P, 7, none⟩ = some (.string tg) ∧ W1.cell? ⟨P, 8, none⟩ = some (.slice la ll lc) ∧ W1.cell? ⟨P, 9, none⟩ = some (.int .i64 pa) ∧ W1.cell? ⟨g, 3, none⟩ = some (fv 232) ∧ Fs wr P g W1) → Below W1.heap.size W1 W2 → (W2.cell? ⟨P, 0, none⟩ = some (.int .u8 3) ∧ W2.cell? ⟨P, 1, none⟩ = some (.int .i64 md) ∧ W2.cell? ⟨P, 2, none⟩ = some (.int .i64 us) ∧ W2.cell? ⟨P, 3, none⟩ = some (.int .i64 gr) ∧ W2.cell? ⟨P, 4, none⟩ = some (.int .i64 lk) ∧ W2.cell? ⟨P, 5, none⟩ = some (.int .i64 ti) ∧ W2.cell? ⟨P, 6, none⟩ = some (.slice da dl dc) ∧ W2.cell? ⟨P, 7, none⟩ = some (.string tg) ∧ W2.cell? ⟨P, 8, none⟩ = some (.slice la ll lc) ∧ W2.cell? ⟨P, 9, none⟩ = some (.int .i64 pa) ∧ W2.cell? ⟨g, 3, none⟩ = some (fv 232) ∧ Fs wr P g W2)) := by
            intro W1 W2 h hb
            obtain ⟨h0, h1, h2, h3, h4, h5, h6, h7, h8, h9, h10, ⟨h11, h12, h13⟩⟩ := h
            exact ⟨(hb.cell h12).trans h0, (hb.cell h12).trans h1, (hb.cell h12).trans h2, (hb.cell h12).trans h3, (hb.cell h12).trans h4, (hb.cell h12).trans h5, (hb.cell h12).trans h6, (hb.cell h12).trans h7, (hb.cell h12).trans h8, (hb.cell h12).trans h9, (hb.cell h13).trans h10, ⟨h11.trans (hb.mono h11.size), Nat.lt_of_lt_of_le h12 hb.size, Nat.lt_of_lt_of_le h13 hb.size⟩⟩
          go_region_held3 (fun w' => w'.cell? ⟨P, 0, none⟩ = some (.int .u8 3) ∧ w'.cell? ⟨P, 1, none⟩ = some (.int .i64 md) ∧ w'.cell? ⟨P, 2, none⟩ = some (.int .i64 us) ∧ w'.cell? ⟨P, 3, none⟩ = some (.int .i64 gr) ∧ w'.cell? ⟨P, 4, none⟩ = some (.int .i64 lk) ∧ w'.cell? ⟨P, 5, none⟩ = some (.int .i64 ti) ∧ w'.cell? ⟨P, 6, none⟩ = some (.slice da dl dc) ∧ w'.cell? ⟨P, 7, none⟩ = some (.string tg) ∧ w'.cell? ⟨P, 8, none⟩ = some (.slice la ll lc) ∧ w'.cell? ⟨P, 9, none⟩ = some (.int .i64 pa) ∧ w'.cell? ⟨g, 3, none⟩ = some (fv 232) ∧ Fs wr P g w') (first | assumption | go_keep)
            (first | ((with_reducible refine (uh HCk _ (uh hBd _ fF)).mono ?_); rintro e w3 ⟨rfl, b3⟩; have hS3 := uh hS10 _ _ hS1 b3; clear b3) | fail)
          have hw : decide ((4 : Int) ≤ IntKind.i64.wrap 3) = false := by rw [wrap_small _ (by omega) (by omega)]; rfl
          have hb3 := uh hBd _ hS3.2.2.2.2.2.2.2.2.2.2.2
          have hF3 := hide (uh hRd _ hb3)
          have hN3 := hide (uh hnw _ hb3)
          rw [hw, Bool.false_or]
          clear hw hb3 hS10 HCk hBd hRd hnw hS1 f0 f1 f2 f3 f4 f5 f6 f7 f8 f9 f10 fF hS3
          cases q with
          | false =>
            have hF := hide (uh hf rfl)
            go_wp2
            go_ret
            exact ⟨by rw [uh hF]; rfl, uh hN3⟩
          | true =>
            go_wp2
            go_roundw
            case rel => exact ⟨k + 1, by omega, by go_num, hide (by rw [uh hs, uh hall]; rfl), hN3, hF3⟩
            case measure => simp [intOf]; omega
      · have hF := hide (uh hf (kind_big m hk4))
        have hk5 : (4 : Int) ≤ (m.kind.toNat : Int) := by omega
        have hkw : IntKind.i64.wrap (m.kind.toNat : Int) = (m.kind.toNat : Int) := wrap_small _ (by omega) (by have := m.kind.toNat_lt; omega)
        have hk6 : decide (4 ≤ m.kind.toNat) = true := by simp; omega
        clear hf hs hdl hll heg
        obtain ⟨kd, md, us, gr, lk, ti, dt, tg, ls, pa⟩ := m
        simp only at c0 c1 c2 c3 c4 c5 c6 c7 c8 c9 hk5 hk6 hkw hk4
        go_wp2
        go_quiet (fail)
        go_wp2
        go_ret
        exact ⟨by rw [uh hF]; rfl, below_drewN (uh hB3 _) _⟩
    · have e : k = n := by omega
      subst e
      go_wp2
      go_ret
      exact ⟨by rw [uh hall]; rfl, uh hnx⟩
end Go.Proofs.YtidhceebafmlkaaGreatDoor.Tr
