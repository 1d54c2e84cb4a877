import Derived.Test.YtidhceebafmlkaaGreatDoorCaTwo
namespace Go.Proofs.YtidhceebafmlkaaGreatDoor.Ca
open Go.RowKit Cu Tr Pm Pt
set_option maxRecDepth 100000 in
set_option maxHeartbeats 400000 in
theorem step_append_any {P : Program} {ops : Array Oper} {o : Oper} {a : Act} {w : World} {K : Act → World → Prop} {Q : Exit → Act → World → Prop} {E : Prop} (hgd : o.guard = none) (s x : Operand) (t : TypeId)
    (ho : o.op = .call { callee := .builtin .append, args := #[s, x], argTypes := #[t, t] })
    (base : Nat) (e : TypeId) (i : TypeInfo) (z : Value) (size bytes : Nat) (ht : P.underlying t = some (.slice e)) (hi : P.info? e = some i) (hz : i.zero = some z)
    (hsize : i.size = size) (hby : i.bytes = bytes) (hzs : z.cells.size = size) (hsz : 0 < size)
    (v : Value) (n : Nat) (xs : List Value) (hs : a.eval s = v) (hown : w.ownsRow base e size v n xs)
    (ao : Option Addr) (m c : Nat) (news : List Value) (hx : a.eval x = .slice ao m c) (hnone : ao = none → m = 0 ∧ c = 0) (hl : news.length = m * size) (hnews : ∀ ad, ao = some ad → ∀ j u, news[j]? = some u → w.cell? (ad.add j) = some u) (h1 : ∀ u ∈ news, u.oneCell' = true)
    (h63 : n + m ≤ maxLen) (hbytes : (n + m) * bytes ≤ 140737488355328) (hbase : base ≤ w.heap.size)
    (h : ∀ v' w', w'.ownsRow base e size v' (n + m) (xs ++ news) → w.grownBy w' v.ownBlock → K (a.put o.dst v') w') :
    if Region.wanted o (yielded ops a.tmps) = true then Oper.wp P o a w K Q else E := by
  have hw : Region.wanted o (yielded ops a.tmps) = true := by simp [Region.wanted, hgd]
  rw [if_pos hw]
  cases ao with
  | some ad => exact wp_append_own w s x t ho base e i z size bytes ht hi hz hsize hby hzs hsz v n xs hs hown ad m c news hx hl (hnews ad rfl) h1 h63 hbytes hbase fun v' w' h2 h3 _ => h v' w' h2 h3
  | none =>
    obtain ⟨rfl, rfl⟩ := hnone rfl
    have : news = [] := List.eq_nil_of_length_eq_zero (by omega)
    subst this
    have hrun := run_append_owned_none (P := P) (w := w) base t o.type e i size ht hi v n xs hown
    unfold Oper.wp
    simp [execOp, ho, resolve, invoke, builtin, hs, hx, hrun, Result.andThen]
    exact h _ _ (by simpa using hown) (World.grownBy.refl _ _)
theorem By.newsF {w : World} {a : Option Addr} {n cap : Nat} {l : Bs} (h : By w a n cap l) : ∀ ad, a = some ad → ∀ j u, (Lib.byteCells l)[j]? = some u → w.cell? (ad.add j) = some u := by
  intro ad ha j u hj
  rcases h.cells with h0 | ⟨b, off, e, _, hc⟩
  · have := h.len
    have : l = [] := List.eq_nil_of_length_eq_zero (by omega)
    subst this
    simp [Lib.byteCells] at hj
  · rw [ha] at e
    injection e with e
    subst e
    have hjl : j < l.length := by
      have := (List.getElem?_eq_some_iff.1 hj).1
      simpa [Lib.byteCells] using this
    have := hc j (by have := h.len; omega)
    rw [Addr.add_lit]
    rw [this]
    simp [Lib.byteCells, List.getElem?_eq_getElem hjl, List.getD] at hj ⊢
    exact hj
theorem freeFrom_le (ns : List Nd) : ∀ f k, k ≤ ns.length → freeFrom ns f k ≤ ns.length
  | 0, _, h => h
  | f + 1, k, h => by
    unfold freeFrom
    split
    · exact freeFrom_le ns f (k + 1) (by omega)
    · exact h
theorem listD_length (now : Int) (ns : List Nd) (d : Nat) (s : ByteArray) (m : Nat) : (listD now ns d s m).length = ns.length := by
  unfold listD upd
  simp only
  split <;> simp only [List.length_set]
theorem addD_lt (now : Int) (ns : List Nd) (d : Nat) (s : ByteArray) (n : Nd) (h : 2 ≤ ns.length) : freeAt ns < (addD now ns d s n).1.length := by
  have q : freeAt ns ≤ ns.length := freeFrom_le ns _ _ h
  unfold addD
  simp only [listD_length]
  split
  · rw [List.length_append, List.length_singleton]; omega
  · rw [List.length_set]; omega
theorem Df.redata {w w' : World} {B D g n c : Nat} {now : Int} {l : List Nv} (h : Df w B D now (sg g n c) l) (hw : Df w' B D now (sg g n c) l) (i : Nat) (hi : i < l.length) {v' : Value} {ds : Bs} (hR : Row w.heap.size v' ds w') (hB : B ≤ w.heap.size) :
    Df (w'.setCell ⟨g, i * 10 + 6, none⟩ v') B D now (sg g n c) (l.set i ({ (l.getD i zNv).1 with data := ds }, v', (l.getD i zNv).2.2)) := by
  refine hw.set i 6 v' _ hi (by omega) rfl ⟨own_base hR hB, (hw.hd i hi).2⟩ fun k hk hne => ?_
  refine ⟨fun j hj hj' => ?_, (hw.apt i hi k hk hne).2⟩
  have q := ((h.hd k hk).1.lt j hj).2
  have q2 := (hR.lt j hj').1
  omega
set_option maxRecDepth 100000 in
set_option maxHeartbeats 4000000 in
theorem fill_any (A : Nat) (x : Option Addr) (n cap : Nat) (dx : Option Addr) (dc : Nat) (a : Ac) (fa : Option Addr) (fc : Nat) (ahead : Bs) (w : World) (h : At w A x n cap dx dc a) (hp : Okp a.ns a.p) (hf : By w fa ahead.length fc ahead) (hfl : ahead.length ≤ 65536) (hcd : a.c.data.length ≤ 4611686018427387904) :
    Calls Tryz.prog 185 #[.pointer (some ⟨A, 0, none⟩), .slice fa ahead.length fc] w (DoR (a.fill ahead) w) := by
  obtain ⟨pd, hpd, hdr⟩ := hp.dir
  obtain ⟨pm, hpm, hpn, -⟩ := hp.node h.chk
  have hdl := hcd
  have HBY : Hid (bytesP a.ns a.ns.length ≤ 1048576) := by
    show _ ≤ _
    obtain ⟨-, -, -, -, -, -, -, l, -⟩ := checkP_parts h.chk
    unfold limitsP at l
    simp only [Bool.and_eq_true, decide_eq_true_eq] at l
    omega
  have HHL : Hid (a.here.data.length ≤ 65536) := by
    show _ ≤ _
    unfold Ac.here
    rw [hpm]
    exact data_small ((checkP_parts h.chk).2.2.2.2.2.1 pm hpn)
  have HCK := hide h.chk
  have HDRr := hide hdr
  have HPDN : Hid (a.p.dir.toNat = pd) := by show _ = _; rw [hpd]; rfl
  have HNN : Hid (∀ W, At W A x n cap dx dc a → Calls Tryz.prog 196 #[.pointer (some ⟨A, 0, none⟩), .int .u8 1] W fun e w' => e = .returned (.agg (na (a.newNode 1) nl nl)) ∧ Below W.heap.size W w') := fun W hW => newNode_any A x n cap dx dc a 1 1 W hW rfl
  have HADD : Hid (∀ B D v l W, Df W B D a.now v l → B ≤ W.heap.size → pd < l.length → (l.getD pd zNv).1.kind = 2 → 2 ≤ l.length → l.length ≤ 1000000 → Rises (l.getD pd zNv).1.list → (l.getD pd zNv).1.list.length ≤ 100000 → (-1000000000 ≤ (l.getD pd zNv).1.links ∧ (l.getD pd zNv).1.links ≤ 1000000000) → Calls Tryz.prog 195 #[.pointer (some ⟨D, 0, none⟩), .agg (pv a.p), .agg (na (a.newNode 1) nl nl)] W fun e w' => e = .returned (.int .i64 (freeAt (l.map (·.1)))) ∧ (∃ v' l', Df w' B D a.now v' l' ∧ l'.map (·.1) = (addD a.now (l.map (·.1)) pd a.p.name (a.newNode 1)).1) ∧ Below B W w') := fun B D v l W h1 h2 h3 h4 h5 h6 h7 h8 h9 => by
    have e : pv a.p = pv ⟨(pd : Int), a.p.name, a.p.node, a.p.dirs⟩ := by rw [← hpd]
    rw [e]
    exact add_any B D a.now v l pd a.p.name a.p.node a.p.dirs (a.newNode 1) W h1 h2 h3 h4 h5 h6 h7 h8 h9 rfl rfl
  obtain ⟨RR, hRR⟩ : ∃ RR, RR = a.fill ahead := ⟨_, rfl⟩
  rw [← hRR]
  have HRR := hide hRR
  clear hRR
  obtain ⟨w1, hw1⟩ : ∃ w1, w1 = w.alloc (.cells zTree 24) := ⟨_, rfl⟩
  have hA1 : At w1 A x n cap dx dc a := by rw [hw1]; exact h.al _
  have hF1 : By w1 fa ahead.length fc ahead := by rw [hw1]; exact hf.below (al_below _ _)
  have HF1 := hide hF1
  have HHa : Hid (Calls Tryz.prog 186 #[.pointer (some ⟨A, 0, none⟩)] w1.drew fun e w' => (∃ v, e = .returned v ∧ IsNd w' v a.here) ∧ Below w1.drew.heap.size w1.drew w') := here_any A x n cap dx dc a pm w1.drew hA1.dr hpm hpn
  have HHb : Hid (Calls Tryz.prog 186 #[.pointer (some ⟨A, 0, none⟩)] (w1.alloc (.cells zNd 82)).drew fun e w' => (∃ v, e = .returned v ∧ IsNd w' v a.here) ∧ Below (w1.alloc (.cells zNd 82)).drew.heap.size (w1.alloc (.cells zNd 82)).drew w') := here_any A x n cap dx dc a pm _ (hA1.al _).dr hpm hpn
  obtain ⟨-, -, -, -, -, -, -, -, -, c9, -⟩ := hA1.cells
  obtain ⟨-, -, -, -, -, -, -, -, -, y9, -⟩ := (hA1.al (.cells zNd 82)).cells
  have HA1 := hide hA1
  have hA1c := hA1
  have HW1 := hide hw1
  have HP := hide hp
  clear h hw1 hp hf hA1 hF1
  go_enter Tryz.func185, Tryz.ntmps185
  go_upto_region 1 with fail
  rw [← uh HW1]
  go_cut [6, 7] (fun u v wx => u = .slice dx a.c.data.length dc ∧ ∃ nb da ec la lc, v = .pointer (some ⟨nb, 0, none⟩) ∧ Hid (As wx A x n cap dx dc a nb a.here (.slice da a.here.data.length ec) (.slice la a.here.list.length lc)) ∧ Hid (Below w1.heap.size w1 wx))
  case first =>
    go_wp2_with fail
    go_region_with
      (first
        | ((with_reducible refine (uh HHa).mono ?_); rintro e w2 ⟨⟨vh, rfl, da, ec, la, lc, hvh, -, -⟩, hb2⟩; subst hvh; have HA2 := hide ((uh HA1).dr.below hb2); have HB2 := hide ((below_drew w1 1).trans hb2); have HX2 := hide (show As (w2.alloc (.cells (na a.here (.slice da a.here.data.length ec) (.slice la a.here.list.length lc)) 82)) A x n cap dx dc a w2.heap.size a.here (.slice da a.here.data.length ec) (.slice la a.here.list.length lc) from ⟨(uh HA2).al _, heap_alloc_new w2 _⟩); have HY2 := hide ((uh HB2).alloc (uh HB2).size (.cells (na a.here (.slice da a.here.data.length ec) (.slice la a.here.list.length lc)) 82)); obtain ⟨-, -, -, -, -, -, -, -, -, x9, -⟩ := (uh HA2).cells; obtain ⟨-, -, -, -, -, -, -, -, -, xx9, -⟩ := ((uh HA2).al (.cells zNd 82)).cells; clear hb2)
        | ((with_reducible refine (uh HHb).mono ?_); rintro e w2 ⟨⟨vh, rfl, da, ec, la, lc, hvh, -, -⟩, hb2⟩; subst hvh; have HA2 := hide ((hA1c.al (.cells zNd 82)).dr.below hb2); have HX0 : w2.heap[w1.heap.size]? = some (.cells zNd 82) := ((hb2.block w1.heap.size (by simp)).trans (by rw [drew_heap]; exact heap_alloc_new w1 _)); have z0 := (box_look HX0 0).1; have f0 := (box_look HX0 0).2; have z1 := (box_look HX0 1).1; have f1 := (box_look HX0 1).2; have z2 := (box_look HX0 2).1; have f2 := (box_look HX0 2).2; have z3 := (box_look HX0 3).1; have f3 := (box_look HX0 3).2; have z4 := (box_look HX0 4).1; have f4 := (box_look HX0 4).2; have z5 := (box_look HX0 5).1; have f5 := (box_look HX0 5).2; have z6 := (box_look HX0 6).1; have f6 := (box_look HX0 6).2; have z7 := (box_look HX0 7).1; have f7 := (box_look HX0 7).2; have z8 := (box_look HX0 8).1; have f8 := (box_look HX0 8).2; have z9 := (box_look HX0 9).1; have f9 := (box_look HX0 9).2; obtain ⟨-, -, -, -, -, -, -, -, -, x9, -⟩ := (uh HA2).cells; have HX1 := hide HX0; have HB2 : Hid (Below w1.heap.size w1 w2) := (below_dr (al_below w1 _)).trans (hb2.mono (by simp)); clear hb2 HX0)
        | fail)
    all_goals
      go_wp2_with fail
      go_meet
      first
        | exact ⟨rfl, w2.heap.size, da, ec, la, lc, rfl, HX2, HY2⟩
        | exact ⟨rfl, w1.heap.size, da, ec, la, lc, rfl, ⟨(uh HA1).below (box10_b (uh HB2) (Nat.le_refl _) _ _ _ _ _ _ _ _ _ _), box10 (uh HX1) _ _ _ _ _ _ _ _ _ _⟩, box10_b (uh HB2) (Nat.le_refl _) _ _ _ _ _ _ _ _ _ _⟩
  case rest =>
    obtain ⟨rfl, nb, da, ec, la, lc, rfl, HS, HBB⟩ := hcut
    obtain ⟨c0, c1, -⟩ := (uh HS).act.cells
    have HSZ := hide (sizes_any x n cap a.ns a.now wc (uh HS).act.ng (sm_of (uh HS).act.chk))
    rw [show sizesV a.now a.ns = .tuple #[.int .i64 (nodesN a.ns a.ns.length), .int .i64 (bytesP a.ns a.ns.length)] by unfold sizesV; rw [if_pos (uh HS).act.chk]] at HSZ
    clear HHa HHb c9 y9 HA1 hA1c
    obtain ⟨N, hN⟩ : ∃ N, N = nodesN a.ns a.ns.length := ⟨_, rfl⟩
    obtain ⟨M, hM⟩ : ∃ M, M = bytesP a.ns a.ns.length := ⟨_, rfl⟩
    rw [← hN, ← hM] at HSZ
    have hM1 : M ≤ 1048576 := by rw [hM]; exact uh HBY
    have hH1 := uh HHL
    have HM := hide hM
    clear hM hN
    go_wp2_with fail
    refine (uh HSZ).mono ?_
    rintro e w2 ⟨rfl, hb2⟩
    have HS2 := hide ((uh HS).below hb2)
    have HBB2 := hide ((uh HBB).trans (hb2.mono (uh HBB).size))
    clear hb2 HSZ HS HBB c0 c1
    go_wp2_with fail
    go_upto_region 4 with fail
    obtain ⟨er, hER⟩ : ∃ er, Hid (er = orP [wh (decide ((65536 : Int) < (a.c.data.length : Int))) 17, wh (nameless a.p || (isD a.here || (isN a.here && a.p.dirs))) 8, a.mayFill, wh (decide ((65536 : Int) < (ahead.length : Int) + (a.c.data.length : Int))) 17, wh (decide ((1048576 : Int) < (M : Int) - (a.here.data.length : Int) + ((ahead.length : Int) + (a.c.data.length : Int)))) 11]) := ⟨_, rfl⟩
    obtain ⟨R, hR⟩ : ∃ R, Hid (R = if isN a.here then addD a.now a.ns a.p.dir.toNat a.p.name (a.newNode 1) else (a.ns, a.p.node.toNat)) := ⟨_, rfl⟩
    have HK : Hid (RR = if er ≠ 0 then no er else yes a.now (upd (upd R.1 R.2 fun y => { y with data := ahead ++ a.c.data }) R.2 fun y => { y with time := a.now })) := by
      show _ = _
      have e1 : decide ((65536 : Int) < (a.c.data.length : Int)) = decide (65536 < a.c.data.length) := decide_eq_decide.2 (by omega)
      have e4 : decide ((65536 : Int) < (ahead.length : Int) + (a.c.data.length : Int)) = decide (65536 < ahead.length + a.c.data.length) := decide_eq_decide.2 (by omega)
      have e5 : ((ahead.length + a.c.data.length : Nat) : Int) = (ahead.length : Int) + (a.c.data.length : Int) := by omega
      have e6 := uh hER
      rw [e1, e4, uh HM, ← e5, ← Bool.or_assoc] at e6
      rw [uh HRR, uh hR, e6]
      rfl
    clear HRR
    have HWR : Hid (IntKind.i64.wrap (IntKind.i64.wrap ((M : Int) - (a.here.data.length : Int)) + ((ahead.length : Int) + (a.c.data.length : Int))) = (M : Int) - (a.here.data.length : Int) + ((ahead.length : Int) + (a.c.data.length : Int))) := by
      show _ = _
      rw [IntWalk.i64_left, IntWalk.i64_left]
      unfold wrap64
      omega
    have HNM : Hid (∀ W, Calls Tryz.prog 189 #[.agg (pv a.p)] W fun e w' => e = .returned (.bool (nameless a.p)) ∧ Below W.heap.size W w') := fun W => isNameless_any a.p W
    have HIN : Hid (∀ W, Calls Tryz.prog 190 #[.agg (na a.here (.slice da a.here.data.length ec) (.slice la a.here.list.length lc))] W fun e w' => e = .returned (.bool (isN a.here)) ∧ Below W.heap.size W w') := fun W => isNone_val _ _ _ W
    have HID : Hid (∀ W, Calls Tryz.prog 197 #[.agg (na a.here (.slice da a.here.data.length ec) (.slice la a.here.list.length lc))] W fun e w' => e = .returned (.bool (isD a.here)) ∧ Below W.heap.size W w') := fun W => isDir_val _ _ _ W
    have HMF : Hid (∀ W, At W A x n cap dx dc a → Calls Tryz.prog 243 #[.pointer (some ⟨A, 0, none⟩)] W fun e w' => e = .returned (.int .i64 a.mayFill) ∧ Below W.heap.size W w') := fun W hW => mayFill_any A x n cap dx dc a W hW (uh HP)
    obtain ⟨w3, hw3⟩ : ∃ w3, w3 = w2.drew := ⟨_, rfl⟩
    have HS0 : Hid (As w2.drew A x n cap dx dc a nb a.here (.slice da a.here.data.length ec) (.slice la a.here.list.length lc)) := (uh HS2).dr
    have BB0 : Hid (Below w1.heap.size w1 w2.drew) := below_dr (uh HBB2)
    clear hw3 w3
    have HPM := hide hpm
    have HPN := hide hpn
    have HPD := hide hpd
    have HDR := hide hdr
    clear hpm hpn hpd hdr
    go_cut [11] (fun u wx => u = .int .i64 er ∧ Hid (As wx A x n cap dx dc a nb a.here (.slice da a.here.data.length ec) (.slice la a.here.list.length lc)) ∧ Hid (Below w1.heap.size w1 wx))
    case first =>
      obtain ⟨b1, hb1⟩ : ∃ b, b = nameless a.p := ⟨_, rfl⟩
      obtain ⟨b2, hb2⟩ : ∃ b, b = isD a.here := ⟨_, rfl⟩
      obtain ⟨b3, hb3⟩ : ∃ b, b = isN a.here := ⟨_, rfl⟩
      rw [← hb1] at HNM hER
      rw [← hb2] at HID hER
      rw [← hb3] at HIN hER
      clear hb1 hb2 hb3
      rcases b1 with _ | _
      rotate_left
      · go_wp2_with fail
        refine wp_region_held_drew (S := (fun w' => As w' A x n cap dx dc a nb a.here (.slice da a.here.data.length ec) (.slice la a.here.list.length lc))) (by kernel_rfl) (uh HS0) (fun hHeld => ?_)
        refine tk 0 rfl (v := ?v43) (.inl ⟨by rfl, ?hy43⟩) ?rest43
        case hy43 => intro w hSw; have hSc := As.fa hSw; go_simp; try with_reducible rfl
        try simp only [pS]
        refine tk 1 rfl (v := ?v44) (.inl ⟨by rfl, ?hy44⟩) ?rest44
        case hy44 => intro w hSw; have hSc := As.fa hSw; go_simp; try with_reducible rfl
        try simp only [pS]
        refine tk 2 rfl (v := ?v45) (.inl ⟨by rfl, ?hy45⟩) ?rest45
        case hy45 => intro w hSw; have hSc := As.fa hSw; go_simp; try with_reducible rfl
        try simp only [pS]
        refine tk 4 rfl (v := ?v46) (.inl ⟨by rfl, ?hy46⟩) ?rest46
        case hy46 => intro w hSw; have hSc := As.fa hSw; go_simp; try with_reducible rfl
        try simp only [pS]
        refine tk 5 rfl (v := ?v47) (.inl ⟨by rfl, ?hy47⟩) ?rest47
        case hy47 => intro w hSw; have hSc := As.fa hSw; go_simp; try with_reducible rfl
        try simp only [pS]
        refine tk 6 rfl (v := ?v48) (.inl ⟨by rfl, ?hy48⟩) ?rest48
        case hy48 => intro w hSw; have hSc := As.fa hSw; go_simp; try with_reducible rfl
        try simp only [pS]
        refine tk 7 rfl (v := ?v49) (.inl ⟨by rfl, ?hy49⟩) ?rest49
        case hy49 => intro w hSw; have hSc := As.fa hSw; go_simp; try with_reducible rfl
        try simp only [pS]
        refine tk 25 rfl (v := ?v50) (.inl ⟨by rfl, ?hy50⟩) ?rest50
        case hy50 => intro w hSw; have hSc := As.fa hSw; go_simp; try with_reducible rfl
        try simp only [pS]
        refine tk 27 rfl (v := ?v51) (.inl ⟨by rfl, ?hy51⟩) ?rest51
        case hy51 => intro w hSw; have hSc := As.fa hSw; go_simp; try with_reducible rfl
        try simp only [pS]
        refine tk 28 rfl (v := ?v52) (.inl ⟨by rfl, ?hy52⟩) ?rest52
        case hy52 => intro w hSw; have hSc := As.fa hSw; go_simp; try with_reducible rfl
        try simp only [pS]
        refine tk 30 rfl (v := ?v53) (.inl ⟨by rfl, ?hy53⟩) ?rest53
        case hy53 => intro w hSw; have hSc := As.fa hSw; go_simp; try with_reducible rfl
        try simp only [pS]
        refine tk 31 rfl (v := ?v54) (.inl ⟨by rfl, ?hy54⟩) ?rest54
        case hy54 => intro w hSw; have hSc := As.fa hSw; go_simp; try with_reducible rfl
        try simp only [pS]
        refine tk 32 rfl (v := ?v55) (.inl ⟨by rfl, ?hy55⟩) ?rest55
        case hy55 => intro w hSw; have hSc := As.fa hSw; go_simp; try with_reducible rfl
        try simp only [pS]
        refine tk 33 rfl (v := ?v56) (.inl ⟨by rfl, ?hy56⟩) ?rest56
        case hy56 => intro w hSw; have hSc := As.fa hSw; go_simp; try with_reducible rfl
        try simp only [pS]
        refine tk 34 rfl (v := ?v57) (.inl ⟨by rfl, ?hy57⟩) ?rest57
        case hy57 => intro w hSw; have hSc := As.fa hSw; go_simp; try with_reducible rfl
        try simp only [pS]
        refine tk 35 rfl (v := ?v58) (.inl ⟨by rfl, ?hy58⟩) ?rest58
        case hy58 => intro w hSw; have hSc := As.fa hSw; go_simp; try with_reducible rfl
        try simp only [pS]
        refine tk 36 rfl (v := ?v59) (.inl ⟨by rfl, ?hy59⟩) ?rest59
        case hy59 => intro w hSw; have hSc := As.fa hSw; go_simp; try with_reducible rfl
        try simp only [pS]
        refine tk 37 rfl (v := ?v60) (.inl ⟨by rfl, ?hy60⟩) ?rest60
        case hy60 => intro w hSw; have hSc := As.fa hSw; go_simp; try with_reducible rfl
        try simp only [pS]
        refine wpAnyH_ready (rs := [3]) (by kernel_rfl) (by simp) ?_
        refine rc rfl fun K hK => ?_
        go_simp
        refine (when_any _ _ _).mono ?_; rintro e ww3 ⟨rfl, hw3⟩; subst hw3
        go_wp2_with fail
        refine hK.out _ _ (by first | exact (uh HS0) | assumption | (dsimp only; assumption)) (fun hHeld2 => ?_)
        clear hK K
        try simp only [pS]
        refine wpAnyH_ready (rs := [8]) (by kernel_rfl) (by simp) ?_
        refine rc rfl fun K hK => ?_
        go_simp
        refine ((uh HNM _)).mono ?_; rintro e w1' ⟨rfl, hb1⟩; have HS1 := hide ((uh HS0).below hb1); have BB1 := hide ((uh BB0).trans (hb1.mono (uh BB0).size)); clear hb1
        go_wp2_with fail
        refine hK.out _ _ (by first | exact (uh HS1) | assumption | (dsimp only; assumption)) (fun hHeld2 => ?_)
        clear hK K
        try simp only [pS]
        refine tk 9 rfl (v := ?v61) (.inl ⟨by rfl, ?hy61⟩) ?rest61
        case hy61 => intro w hSw; have hSc := As.fa hSw; go_simp; try with_reducible rfl
        try simp only [pS]
        refine tk 10 rfl (v := undef) (.inr ⟨by rfl, rfl⟩) ?_
        try simp only [pS]
        refine tk 11 rfl (v := undef) (.inr ⟨by rfl, rfl⟩) ?_
        try simp only [pS]
        refine tk 12 rfl (v := ?v64) (.inl ⟨by rfl, ?hy64⟩) ?rest64
        case hy64 => intro w hSw; have hSc := As.fa hSw; go_simp; try with_reducible rfl
        try simp only [pS]
        refine tk 13 rfl (v := ?v65) (.inl ⟨by rfl, ?hy65⟩) ?rest65
        case hy65 => intro w hSw; have hSc := As.fa hSw; go_simp; try with_reducible rfl
        try simp only [pS]
        refine tk 14 rfl (v := undef) (.inr ⟨by rfl, rfl⟩) ?_
        try simp only [pS]
        refine tk 15 rfl (v := undef) (.inr ⟨by rfl, rfl⟩) ?_
        try simp only [pS]
        refine tk 16 rfl (v := undef) (.inr ⟨by rfl, rfl⟩) ?_
        try simp only [pS]
        refine tk 17 rfl (v := undef) (.inr ⟨by rfl, rfl⟩) ?_
        try simp only [pS]
        refine tk 18 rfl (v := undef) (.inr ⟨by rfl, rfl⟩) ?_
        try simp only [pS]
        refine tk 19 rfl (v := undef) (.inr ⟨by rfl, rfl⟩) ?_
        try simp only [pS]
        refine tk 20 rfl (v := undef) (.inr ⟨by rfl, rfl⟩) ?_
        try simp only [pS]
        refine tk 21 rfl (v := undef) (.inr ⟨by rfl, rfl⟩) ?_
        try simp only [pS]
        refine tk 22 rfl (v := undef) (.inr ⟨by rfl, rfl⟩) ?_
        try simp only [pS]
        refine tk 23 rfl (v := ?v75) (.inl ⟨by rfl, ?hy75⟩) ?rest75
        case hy75 => intro w hSw; have hSc := As.fa hSw; go_simp; try with_reducible rfl
        try simp only [pS]
        refine wpAnyH_ready (rs := [24]) (by kernel_rfl) (by simp) ?_
        refine rc rfl fun K hK => ?_
        go_simp
        refine (when_any _ _ _).mono ?_; rintro e ww24 ⟨rfl, hw24⟩; subst hw24
        go_wp2_with fail
        refine hK.out _ _ (by first | exact (uh HS1) | assumption | (dsimp only; assumption)) (fun hHeld2 => ?_)
        clear hK K
        try simp only [pS]
        refine wpAnyH_ready (rs := [26]) (by kernel_rfl) (by simp) ?_
        refine rc rfl fun K hK => ?_
        go_simp
        refine ((uh HMF _ (uh HS1).act)).mono ?_; rintro e w2' ⟨rfl, hb2⟩; have HS2 := hide ((uh HS1).below hb2); have BB2 := hide ((uh BB1).trans (hb2.mono (uh BB1).size)); clear hb2
        go_wp2_with fail
        refine hK.out _ _ (by first | exact (uh HS2) | assumption | (dsimp only; assumption)) (fun hHeld2 => ?_)
        clear hK K
        try simp only [pS]
        refine wpAnyH_ready (rs := [29]) (by kernel_rfl) (by simp) ?_
        refine rc rfl fun K hK => ?_
        go_simp
        refine (when_any _ _ _).mono ?_; rintro e ww29 ⟨rfl, hw29⟩; subst hw29
        go_wp2_with fail
        refine hK.out _ _ (by first | exact (uh HS2) | assumption | (dsimp only; assumption)) (fun hHeld2 => ?_)
        clear hK K
        try simp only [pS]
        refine wpAnyH_ready (rs := [38]) (by kernel_rfl) (by simp) ?_
        refine rc rfl fun K hK => ?_
        go_simp
        refine (when_any _ _ _).mono ?_; rintro e ww38 ⟨rfl, hw38⟩; subst hw38
        go_wp2_with fail
        refine hK.out _ _ (by first | exact (uh HS2) | assumption | (dsimp only; assumption)) (fun hHeld2 => ?_)
        clear hK K
        try simp only [pS]
        refine wpAnyH_ready (rs := [39]) (by kernel_rfl) (by simp) ?_
        refine rc rfl fun K hK => ?_
        go_simp
        skip
        go_wp2_with fail
        refine hK.out _ _ (by first | exact ((uh HS2).al _) | assumption | (dsimp only; assumption)) (fun hHeld2 => ?_)
        clear hK K
        try simp only [pS]
        refine wpAnyH_ready (rs := [40]) (by kernel_rfl) (by simp) ?_
        refine rc rfl fun K hK => ?_
        go_simp
        refine (or5_any _ _ _ _ _ _ _ rfl).mono ?_; rintro e ww40 ⟨rfl, hw40⟩; subst hw40
        go_wp2_with fail
        refine hK.out _ _ (by first | exact ((uh HS2).al _) | assumption | (dsimp only; assumption)) (fun hHeld2 => ?_)
        clear hK K
        try simp only [pS]
        refine tk 41 rfl (v := ?v76) (.inl ⟨by rfl, ?hy76⟩) ?rest76
        case hy76 => intro w hSw; have hSc := As.fa hSw; go_simp; try with_reducible rfl
        try simp only [pS]
        refine wpAnyH_done (by kernel_rfl) ?_ _
        go_wp2_with fail
        go_meet
        exact ⟨by rw [uh HWR, uh hER]; first | rfl | simp only [Bool.true_or, Bool.false_or, Bool.true_and, Bool.false_and, Bool.or_false, Bool.or_true], (uh HS2).al _, (uh BB2).alloc (uh BB2).size _⟩
      rcases b2 with _ | _
      rotate_left
      · go_wp2_with fail
        refine wp_region_held_drew (S := (fun w' => As w' A x n cap dx dc a nb a.here (.slice da a.here.data.length ec) (.slice la a.here.list.length lc))) (by kernel_rfl) (uh HS0) (fun hHeld => ?_)
        refine tk 0 rfl (v := ?v77) (.inl ⟨by rfl, ?hy77⟩) ?rest77
        case hy77 => intro w hSw; have hSc := As.fa hSw; go_simp; try with_reducible rfl
        try simp only [pS]
        refine tk 1 rfl (v := ?v78) (.inl ⟨by rfl, ?hy78⟩) ?rest78
        case hy78 => intro w hSw; have hSc := As.fa hSw; go_simp; try with_reducible rfl
        try simp only [pS]
        refine tk 2 rfl (v := ?v79) (.inl ⟨by rfl, ?hy79⟩) ?rest79
        case hy79 => intro w hSw; have hSc := As.fa hSw; go_simp; try with_reducible rfl
        try simp only [pS]
        refine tk 4 rfl (v := ?v80) (.inl ⟨by rfl, ?hy80⟩) ?rest80
        case hy80 => intro w hSw; have hSc := As.fa hSw; go_simp; try with_reducible rfl
        try simp only [pS]
        refine tk 5 rfl (v := ?v81) (.inl ⟨by rfl, ?hy81⟩) ?rest81
        case hy81 => intro w hSw; have hSc := As.fa hSw; go_simp; try with_reducible rfl
        try simp only [pS]
        refine tk 6 rfl (v := ?v82) (.inl ⟨by rfl, ?hy82⟩) ?rest82
        case hy82 => intro w hSw; have hSc := As.fa hSw; go_simp; try with_reducible rfl
        try simp only [pS]
        refine tk 7 rfl (v := ?v83) (.inl ⟨by rfl, ?hy83⟩) ?rest83
        case hy83 => intro w hSw; have hSc := As.fa hSw; go_simp; try with_reducible rfl
        try simp only [pS]
        refine tk 25 rfl (v := ?v84) (.inl ⟨by rfl, ?hy84⟩) ?rest84
        case hy84 => intro w hSw; have hSc := As.fa hSw; go_simp; try with_reducible rfl
        try simp only [pS]
        refine tk 27 rfl (v := ?v85) (.inl ⟨by rfl, ?hy85⟩) ?rest85
        case hy85 => intro w hSw; have hSc := As.fa hSw; go_simp; try with_reducible rfl
        try simp only [pS]
        refine tk 28 rfl (v := ?v86) (.inl ⟨by rfl, ?hy86⟩) ?rest86
        case hy86 => intro w hSw; have hSc := As.fa hSw; go_simp; try with_reducible rfl
        try simp only [pS]
        refine tk 30 rfl (v := ?v87) (.inl ⟨by rfl, ?hy87⟩) ?rest87
        case hy87 => intro w hSw; have hSc := As.fa hSw; go_simp; try with_reducible rfl
        try simp only [pS]
        refine tk 31 rfl (v := ?v88) (.inl ⟨by rfl, ?hy88⟩) ?rest88
        case hy88 => intro w hSw; have hSc := As.fa hSw; go_simp; try with_reducible rfl
        try simp only [pS]
        refine tk 32 rfl (v := ?v89) (.inl ⟨by rfl, ?hy89⟩) ?rest89
        case hy89 => intro w hSw; have hSc := As.fa hSw; go_simp; try with_reducible rfl
        try simp only [pS]
        refine tk 33 rfl (v := ?v90) (.inl ⟨by rfl, ?hy90⟩) ?rest90
        case hy90 => intro w hSw; have hSc := As.fa hSw; go_simp; try with_reducible rfl
        try simp only [pS]
        refine tk 34 rfl (v := ?v91) (.inl ⟨by rfl, ?hy91⟩) ?rest91
        case hy91 => intro w hSw; have hSc := As.fa hSw; go_simp; try with_reducible rfl
        try simp only [pS]
        refine tk 35 rfl (v := ?v92) (.inl ⟨by rfl, ?hy92⟩) ?rest92
        case hy92 => intro w hSw; have hSc := As.fa hSw; go_simp; try with_reducible rfl
        try simp only [pS]
        refine tk 36 rfl (v := ?v93) (.inl ⟨by rfl, ?hy93⟩) ?rest93
        case hy93 => intro w hSw; have hSc := As.fa hSw; go_simp; try with_reducible rfl
        try simp only [pS]
        refine tk 37 rfl (v := ?v94) (.inl ⟨by rfl, ?hy94⟩) ?rest94
        case hy94 => intro w hSw; have hSc := As.fa hSw; go_simp; try with_reducible rfl
        try simp only [pS]
        refine wpAnyH_ready (rs := [3]) (by kernel_rfl) (by simp) ?_
        refine rc rfl fun K hK => ?_
        go_simp
        refine (when_any _ _ _).mono ?_; rintro e ww3 ⟨rfl, hw3⟩; subst hw3
        go_wp2_with fail
        refine hK.out _ _ (by first | exact (uh HS0) | assumption | (dsimp only; assumption)) (fun hHeld2 => ?_)
        clear hK K
        try simp only [pS]
        refine wpAnyH_ready (rs := [8]) (by kernel_rfl) (by simp) ?_
        refine rc rfl fun K hK => ?_
        go_simp
        refine ((uh HNM _)).mono ?_; rintro e w1' ⟨rfl, hb1⟩; have HS1 := hide ((uh HS0).below hb1); have BB1 := hide ((uh BB0).trans (hb1.mono (uh BB0).size)); clear hb1
        go_wp2_with fail
        refine hK.out _ _ (by first | exact (uh HS1) | assumption | (dsimp only; assumption)) (fun hHeld2 => ?_)
        clear hK K
        try simp only [pS]
        refine tk 9 rfl (v := ?v95) (.inl ⟨by rfl, ?hy95⟩) ?rest95
        case hy95 => intro w hSw; have hSc := As.fa hSw; go_simp; try with_reducible rfl
        try simp only [pS]
        refine tk 10 rfl (v := ?v96) (.inl ⟨by rfl, ?hy96⟩) ?rest96
        case hy96 => intro w hSw; have hSc := As.fa hSw; go_simp; try with_reducible rfl
        try simp only [pS]
        refine wpAnyH_ready (rs := [11]) (by kernel_rfl) (by simp) ?_
        refine rc rfl fun K hK => ?_
        go_simp
        refine ((uh HID _)).mono ?_; rintro e w2' ⟨rfl, hb2⟩; have HS2 := hide ((uh HS1).below hb2); have BB2 := hide ((uh BB1).trans (hb2.mono (uh BB1).size)); clear hb2
        go_wp2_with fail
        refine hK.out _ _ (by first | exact (uh HS2) | assumption | (dsimp only; assumption)) (fun hHeld2 => ?_)
        clear hK K
        try simp only [pS]
        refine tk 12 rfl (v := ?v97) (.inl ⟨by rfl, ?hy97⟩) ?rest97
        case hy97 => intro w hSw; have hSc := As.fa hSw; go_simp; try with_reducible rfl
        try simp only [pS]
        refine tk 13 rfl (v := ?v98) (.inl ⟨by rfl, ?hy98⟩) ?rest98
        case hy98 => intro w hSw; have hSc := As.fa hSw; go_simp; try with_reducible rfl
        try simp only [pS]
        refine tk 14 rfl (v := undef) (.inr ⟨by rfl, rfl⟩) ?_
        try simp only [pS]
        refine tk 15 rfl (v := undef) (.inr ⟨by rfl, rfl⟩) ?_
        try simp only [pS]
        refine tk 16 rfl (v := undef) (.inr ⟨by rfl, rfl⟩) ?_
        try simp only [pS]
        refine tk 17 rfl (v := undef) (.inr ⟨by rfl, rfl⟩) ?_
        try simp only [pS]
        refine tk 18 rfl (v := undef) (.inr ⟨by rfl, rfl⟩) ?_
        try simp only [pS]
        refine tk 19 rfl (v := undef) (.inr ⟨by rfl, rfl⟩) ?_
        try simp only [pS]
        refine tk 20 rfl (v := undef) (.inr ⟨by rfl, rfl⟩) ?_
        try simp only [pS]
        refine tk 21 rfl (v := undef) (.inr ⟨by rfl, rfl⟩) ?_
        try simp only [pS]
        refine tk 22 rfl (v := undef) (.inr ⟨by rfl, rfl⟩) ?_
        try simp only [pS]
        refine tk 23 rfl (v := ?v108) (.inl ⟨by rfl, ?hy108⟩) ?rest108
        case hy108 => intro w hSw; have hSc := As.fa hSw; go_simp; try with_reducible rfl
        try simp only [pS]
        refine wpAnyH_ready (rs := [24]) (by kernel_rfl) (by simp) ?_
        refine rc rfl fun K hK => ?_
        go_simp
        refine (when_any _ _ _).mono ?_; rintro e ww24 ⟨rfl, hw24⟩; subst hw24
        go_wp2_with fail
        refine hK.out _ _ (by first | exact (uh HS2) | assumption | (dsimp only; assumption)) (fun hHeld2 => ?_)
        clear hK K
        try simp only [pS]
        refine wpAnyH_ready (rs := [26]) (by kernel_rfl) (by simp) ?_
        refine rc rfl fun K hK => ?_
        go_simp
        refine ((uh HMF _ (uh HS2).act)).mono ?_; rintro e w3' ⟨rfl, hb3⟩; have HS3 := hide ((uh HS2).below hb3); have BB3 := hide ((uh BB2).trans (hb3.mono (uh BB2).size)); clear hb3
        go_wp2_with fail
        refine hK.out _ _ (by first | exact (uh HS3) | assumption | (dsimp only; assumption)) (fun hHeld2 => ?_)
        clear hK K
        try simp only [pS]
        refine wpAnyH_ready (rs := [29]) (by kernel_rfl) (by simp) ?_
        refine rc rfl fun K hK => ?_
        go_simp
        refine (when_any _ _ _).mono ?_; rintro e ww29 ⟨rfl, hw29⟩; subst hw29
        go_wp2_with fail
        refine hK.out _ _ (by first | exact (uh HS3) | assumption | (dsimp only; assumption)) (fun hHeld2 => ?_)
        clear hK K
        try simp only [pS]
        refine wpAnyH_ready (rs := [38]) (by kernel_rfl) (by simp) ?_
        refine rc rfl fun K hK => ?_
        go_simp
        refine (when_any _ _ _).mono ?_; rintro e ww38 ⟨rfl, hw38⟩; subst hw38
        go_wp2_with fail
        refine hK.out _ _ (by first | exact (uh HS3) | assumption | (dsimp only; assumption)) (fun hHeld2 => ?_)
        clear hK K
        try simp only [pS]
        refine wpAnyH_ready (rs := [39]) (by kernel_rfl) (by simp) ?_
        refine rc rfl fun K hK => ?_
        go_simp
        skip
        go_wp2_with fail
        refine hK.out _ _ (by first | exact ((uh HS3).al _) | assumption | (dsimp only; assumption)) (fun hHeld2 => ?_)
        clear hK K
        try simp only [pS]
        refine wpAnyH_ready (rs := [40]) (by kernel_rfl) (by simp) ?_
        refine rc rfl fun K hK => ?_
        go_simp
        refine (or5_any _ _ _ _ _ _ _ rfl).mono ?_; rintro e ww40 ⟨rfl, hw40⟩; subst hw40
        go_wp2_with fail
        refine hK.out _ _ (by first | exact ((uh HS3).al _) | assumption | (dsimp only; assumption)) (fun hHeld2 => ?_)
        clear hK K
        try simp only [pS]
        refine tk 41 rfl (v := ?v109) (.inl ⟨by rfl, ?hy109⟩) ?rest109
        case hy109 => intro w hSw; have hSc := As.fa hSw; go_simp; try with_reducible rfl
        try simp only [pS]
        refine wpAnyH_done (by kernel_rfl) ?_ _
        go_wp2_with fail
        go_meet
        exact ⟨by rw [uh HWR, uh hER]; first | rfl | simp only [Bool.true_or, Bool.false_or, Bool.true_and, Bool.false_and, Bool.or_false, Bool.or_true], (uh HS3).al _, (uh BB3).alloc (uh BB3).size _⟩
      rcases b3 with _ | _
      rotate_left
      · go_wp2_with fail
        refine wp_region_held_drew (S := (fun w' => As w' A x n cap dx dc a nb a.here (.slice da a.here.data.length ec) (.slice la a.here.list.length lc))) (by kernel_rfl) (uh HS0) (fun hHeld => ?_)
        refine tk 0 rfl (v := ?v110) (.inl ⟨by rfl, ?hy110⟩) ?rest110
        case hy110 => intro w hSw; have hSc := As.fa hSw; go_simp; try with_reducible rfl
        try simp only [pS]
        refine tk 1 rfl (v := ?v111) (.inl ⟨by rfl, ?hy111⟩) ?rest111
        case hy111 => intro w hSw; have hSc := As.fa hSw; go_simp; try with_reducible rfl
        try simp only [pS]
        refine tk 2 rfl (v := ?v112) (.inl ⟨by rfl, ?hy112⟩) ?rest112
        case hy112 => intro w hSw; have hSc := As.fa hSw; go_simp; try with_reducible rfl
        try simp only [pS]
        refine tk 4 rfl (v := ?v113) (.inl ⟨by rfl, ?hy113⟩) ?rest113
        case hy113 => intro w hSw; have hSc := As.fa hSw; go_simp; try with_reducible rfl
        try simp only [pS]
        refine tk 5 rfl (v := ?v114) (.inl ⟨by rfl, ?hy114⟩) ?rest114
        case hy114 => intro w hSw; have hSc := As.fa hSw; go_simp; try with_reducible rfl
        try simp only [pS]
        refine tk 6 rfl (v := ?v115) (.inl ⟨by rfl, ?hy115⟩) ?rest115
        case hy115 => intro w hSw; have hSc := As.fa hSw; go_simp; try with_reducible rfl
        try simp only [pS]
        refine tk 7 rfl (v := ?v116) (.inl ⟨by rfl, ?hy116⟩) ?rest116
        case hy116 => intro w hSw; have hSc := As.fa hSw; go_simp; try with_reducible rfl
        try simp only [pS]
        refine tk 25 rfl (v := ?v117) (.inl ⟨by rfl, ?hy117⟩) ?rest117
        case hy117 => intro w hSw; have hSc := As.fa hSw; go_simp; try with_reducible rfl
        try simp only [pS]
        refine tk 27 rfl (v := ?v118) (.inl ⟨by rfl, ?hy118⟩) ?rest118
        case hy118 => intro w hSw; have hSc := As.fa hSw; go_simp; try with_reducible rfl
        try simp only [pS]
        refine tk 28 rfl (v := ?v119) (.inl ⟨by rfl, ?hy119⟩) ?rest119
        case hy119 => intro w hSw; have hSc := As.fa hSw; go_simp; try with_reducible rfl
        try simp only [pS]
        refine tk 30 rfl (v := ?v120) (.inl ⟨by rfl, ?hy120⟩) ?rest120
        case hy120 => intro w hSw; have hSc := As.fa hSw; go_simp; try with_reducible rfl
        try simp only [pS]
        refine tk 31 rfl (v := ?v121) (.inl ⟨by rfl, ?hy121⟩) ?rest121
        case hy121 => intro w hSw; have hSc := As.fa hSw; go_simp; try with_reducible rfl
        try simp only [pS]
        refine tk 32 rfl (v := ?v122) (.inl ⟨by rfl, ?hy122⟩) ?rest122
        case hy122 => intro w hSw; have hSc := As.fa hSw; go_simp; try with_reducible rfl
        try simp only [pS]
        refine tk 33 rfl (v := ?v123) (.inl ⟨by rfl, ?hy123⟩) ?rest123
        case hy123 => intro w hSw; have hSc := As.fa hSw; go_simp; try with_reducible rfl
        try simp only [pS]
        refine tk 34 rfl (v := ?v124) (.inl ⟨by rfl, ?hy124⟩) ?rest124
        case hy124 => intro w hSw; have hSc := As.fa hSw; go_simp; try with_reducible rfl
        try simp only [pS]
        refine tk 35 rfl (v := ?v125) (.inl ⟨by rfl, ?hy125⟩) ?rest125
        case hy125 => intro w hSw; have hSc := As.fa hSw; go_simp; try with_reducible rfl
        try simp only [pS]
        refine tk 36 rfl (v := ?v126) (.inl ⟨by rfl, ?hy126⟩) ?rest126
        case hy126 => intro w hSw; have hSc := As.fa hSw; go_simp; try with_reducible rfl
        try simp only [pS]
        refine tk 37 rfl (v := ?v127) (.inl ⟨by rfl, ?hy127⟩) ?rest127
        case hy127 => intro w hSw; have hSc := As.fa hSw; go_simp; try with_reducible rfl
        try simp only [pS]
        refine wpAnyH_ready (rs := [3]) (by kernel_rfl) (by simp) ?_
        refine rc rfl fun K hK => ?_
        go_simp
        refine (when_any _ _ _).mono ?_; rintro e ww3 ⟨rfl, hw3⟩; subst hw3
        go_wp2_with fail
        refine hK.out _ _ (by first | exact (uh HS0) | assumption | (dsimp only; assumption)) (fun hHeld2 => ?_)
        clear hK K
        try simp only [pS]
        refine wpAnyH_ready (rs := [8]) (by kernel_rfl) (by simp) ?_
        refine rc rfl fun K hK => ?_
        go_simp
        refine ((uh HNM _)).mono ?_; rintro e w1' ⟨rfl, hb1⟩; have HS1 := hide ((uh HS0).below hb1); have BB1 := hide ((uh BB0).trans (hb1.mono (uh BB0).size)); clear hb1
        go_wp2_with fail
        refine hK.out _ _ (by first | exact (uh HS1) | assumption | (dsimp only; assumption)) (fun hHeld2 => ?_)
        clear hK K
        try simp only [pS]
        refine tk 9 rfl (v := ?v128) (.inl ⟨by rfl, ?hy128⟩) ?rest128
        case hy128 => intro w hSw; have hSc := As.fa hSw; go_simp; try with_reducible rfl
        try simp only [pS]
        refine tk 10 rfl (v := ?v129) (.inl ⟨by rfl, ?hy129⟩) ?rest129
        case hy129 => intro w hSw; have hSc := As.fa hSw; go_simp; try with_reducible rfl
        try simp only [pS]
        refine wpAnyH_ready (rs := [11]) (by kernel_rfl) (by simp) ?_
        refine rc rfl fun K hK => ?_
        go_simp
        refine ((uh HID _)).mono ?_; rintro e w2' ⟨rfl, hb2⟩; have HS2 := hide ((uh HS1).below hb2); have BB2 := hide ((uh BB1).trans (hb2.mono (uh BB1).size)); clear hb2
        go_wp2_with fail
        refine hK.out _ _ (by first | exact (uh HS2) | assumption | (dsimp only; assumption)) (fun hHeld2 => ?_)
        clear hK K
        try simp only [pS]
        refine tk 12 rfl (v := ?v130) (.inl ⟨by rfl, ?hy130⟩) ?rest130
        case hy130 => intro w hSw; have hSc := As.fa hSw; go_simp; try with_reducible rfl
        try simp only [pS]
        refine tk 13 rfl (v := ?v131) (.inl ⟨by rfl, ?hy131⟩) ?rest131
        case hy131 => intro w hSw; have hSc := As.fa hSw; go_simp; try with_reducible rfl
        try simp only [pS]
        refine tk 14 rfl (v := ?v132) (.inl ⟨by rfl, ?hy132⟩) ?rest132
        case hy132 => intro w hSw; have hSc := As.fa hSw; go_simp; try with_reducible rfl
        try simp only [pS]
        refine wpAnyH_ready (rs := [15]) (by kernel_rfl) (by simp) ?_
        refine rc rfl fun K hK => ?_
        go_simp
        refine ((uh HIN _)).mono ?_; rintro e w3' ⟨rfl, hb3⟩; have HS3 := hide ((uh HS2).below hb3); have BB3 := hide ((uh BB2).trans (hb3.mono (uh BB2).size)); clear hb3
        go_wp2_with fail
        refine hK.out _ _ (by first | exact (uh HS3) | assumption | (dsimp only; assumption)) (fun hHeld2 => ?_)
        clear hK K
        try simp only [pS]
        refine tk 16 rfl (v := ?v133) (.inl ⟨by rfl, ?hy133⟩) ?rest133
        case hy133 => intro w hSw; have hSc := As.fa hSw; go_simp; try with_reducible rfl
        try simp only [pS]
        refine tk 17 rfl (v := ?v134) (.inl ⟨by rfl, ?hy134⟩) ?rest134
        case hy134 => intro w hSw; have hSc := As.fa hSw; go_simp; try with_reducible rfl
        try simp only [pS]
        refine tk 18 rfl (v := ?v135) (.inl ⟨by rfl, ?hy135⟩) ?rest135
        case hy135 => intro w hSw; have hSc := As.fa hSw; go_simp; try with_reducible rfl
        try simp only [pS]
        refine tk 19 rfl (v := ?v136) (.inl ⟨by rfl, ?hy136⟩) ?rest136
        case hy136 => intro w hSw; have hSc := As.fa hSw; go_simp; try with_reducible rfl
        try simp only [pS]
        refine tk 20 rfl (v := ?v137) (.inl ⟨by rfl, ?hy137⟩) ?rest137
        case hy137 => intro w hSw; have hSc := As.fa hSw; go_simp; try with_reducible rfl
        try simp only [pS]
        refine tk 21 rfl (v := ?v138) (.inl ⟨by rfl, ?hy138⟩) ?rest138
        case hy138 => intro w hSw; have hSc := As.fa hSw; go_simp; try with_reducible rfl
        try simp only [pS]
        refine tk 22 rfl (v := ?v139) (.inl ⟨by rfl, ?hy139⟩) ?rest139
        case hy139 => intro w hSw; have hSc := As.fa hSw; go_simp; try with_reducible rfl
        try simp only [pS]
        refine tk 23 rfl (v := ?v140) (.inl ⟨by rfl, ?hy140⟩) ?rest140
        case hy140 => intro w hSw; have hSc := As.fa hSw; go_simp; try with_reducible rfl
        try simp only [pS]
        refine wpAnyH_ready (rs := [24]) (by kernel_rfl) (by simp) ?_
        refine rc rfl fun K hK => ?_
        go_simp
        refine (when_any _ _ _).mono ?_; rintro e ww24 ⟨rfl, hw24⟩; subst hw24
        go_wp2_with fail
        refine hK.out _ _ (by first | exact (uh HS3) | assumption | (dsimp only; assumption)) (fun hHeld2 => ?_)
        clear hK K
        try simp only [pS]
        refine wpAnyH_ready (rs := [26]) (by kernel_rfl) (by simp) ?_
        refine rc rfl fun K hK => ?_
        go_simp
        refine ((uh HMF _ (uh HS3).act)).mono ?_; rintro e w4' ⟨rfl, hb4⟩; have HS4 := hide ((uh HS3).below hb4); have BB4 := hide ((uh BB3).trans (hb4.mono (uh BB3).size)); clear hb4
        go_wp2_with fail
        refine hK.out _ _ (by first | exact (uh HS4) | assumption | (dsimp only; assumption)) (fun hHeld2 => ?_)
        clear hK K
        try simp only [pS]
        refine wpAnyH_ready (rs := [29]) (by kernel_rfl) (by simp) ?_
        refine rc rfl fun K hK => ?_
        go_simp
        refine (when_any _ _ _).mono ?_; rintro e ww29 ⟨rfl, hw29⟩; subst hw29
        go_wp2_with fail
        refine hK.out _ _ (by first | exact (uh HS4) | assumption | (dsimp only; assumption)) (fun hHeld2 => ?_)
        clear hK K
        try simp only [pS]
        refine wpAnyH_ready (rs := [38]) (by kernel_rfl) (by simp) ?_
        refine rc rfl fun K hK => ?_
        go_simp
        refine (when_any _ _ _).mono ?_; rintro e ww38 ⟨rfl, hw38⟩; subst hw38
        go_wp2_with fail
        refine hK.out _ _ (by first | exact (uh HS4) | assumption | (dsimp only; assumption)) (fun hHeld2 => ?_)
        clear hK K
        try simp only [pS]
        refine wpAnyH_ready (rs := [39]) (by kernel_rfl) (by simp) ?_
        refine rc rfl fun K hK => ?_
        go_simp
        skip
        go_wp2_with fail
        refine hK.out _ _ (by first | exact ((uh HS4).al _) | assumption | (dsimp only; assumption)) (fun hHeld2 => ?_)
        clear hK K
        try simp only [pS]
        refine wpAnyH_ready (rs := [40]) (by kernel_rfl) (by simp) ?_
        refine rc rfl fun K hK => ?_
        go_simp
        refine (or5_any _ _ _ _ _ _ _ rfl).mono ?_; rintro e ww40 ⟨rfl, hw40⟩; subst hw40
        go_wp2_with fail
        refine hK.out _ _ (by first | exact ((uh HS4).al _) | assumption | (dsimp only; assumption)) (fun hHeld2 => ?_)
        clear hK K
        try simp only [pS]
        refine tk 41 rfl (v := ?v141) (.inl ⟨by rfl, ?hy141⟩) ?rest141
        case hy141 => intro w hSw; have hSc := As.fa hSw; go_simp; try with_reducible rfl
        try simp only [pS]
        refine wpAnyH_done (by kernel_rfl) ?_ _
        go_wp2_with fail
        go_meet
        exact ⟨by rw [uh HWR, uh hER]; first | rfl | simp only [Bool.true_or, Bool.false_or, Bool.true_and, Bool.false_and, Bool.or_false, Bool.or_true], (uh HS4).al _, (uh BB4).alloc (uh BB4).size _⟩
      · go_wp2_with fail
        refine wp_region_held_drew (S := (fun w' => As w' A x n cap dx dc a nb a.here (.slice da a.here.data.length ec) (.slice la a.here.list.length lc))) (by kernel_rfl) (uh HS0) (fun hHeld => ?_)
        refine tk 0 rfl (v := ?v142) (.inl ⟨by rfl, ?hy142⟩) ?rest142
        case hy142 => intro w hSw; have hSc := As.fa hSw; go_simp; try with_reducible rfl
        try simp only [pS]
        refine tk 1 rfl (v := ?v143) (.inl ⟨by rfl, ?hy143⟩) ?rest143
        case hy143 => intro w hSw; have hSc := As.fa hSw; go_simp; try with_reducible rfl
        try simp only [pS]
        refine tk 2 rfl (v := ?v144) (.inl ⟨by rfl, ?hy144⟩) ?rest144
        case hy144 => intro w hSw; have hSc := As.fa hSw; go_simp; try with_reducible rfl
        try simp only [pS]
        refine tk 4 rfl (v := ?v145) (.inl ⟨by rfl, ?hy145⟩) ?rest145
        case hy145 => intro w hSw; have hSc := As.fa hSw; go_simp; try with_reducible rfl
        try simp only [pS]
        refine tk 5 rfl (v := ?v146) (.inl ⟨by rfl, ?hy146⟩) ?rest146
        case hy146 => intro w hSw; have hSc := As.fa hSw; go_simp; try with_reducible rfl
        try simp only [pS]
        refine tk 6 rfl (v := ?v147) (.inl ⟨by rfl, ?hy147⟩) ?rest147
        case hy147 => intro w hSw; have hSc := As.fa hSw; go_simp; try with_reducible rfl
        try simp only [pS]
        refine tk 7 rfl (v := ?v148) (.inl ⟨by rfl, ?hy148⟩) ?rest148
        case hy148 => intro w hSw; have hSc := As.fa hSw; go_simp; try with_reducible rfl
        try simp only [pS]
        refine tk 25 rfl (v := ?v149) (.inl ⟨by rfl, ?hy149⟩) ?rest149
        case hy149 => intro w hSw; have hSc := As.fa hSw; go_simp; try with_reducible rfl
        try simp only [pS]
        refine tk 27 rfl (v := ?v150) (.inl ⟨by rfl, ?hy150⟩) ?rest150
        case hy150 => intro w hSw; have hSc := As.fa hSw; go_simp; try with_reducible rfl
        try simp only [pS]
        refine tk 28 rfl (v := ?v151) (.inl ⟨by rfl, ?hy151⟩) ?rest151
        case hy151 => intro w hSw; have hSc := As.fa hSw; go_simp; try with_reducible rfl
        try simp only [pS]
        refine tk 30 rfl (v := ?v152) (.inl ⟨by rfl, ?hy152⟩) ?rest152
        case hy152 => intro w hSw; have hSc := As.fa hSw; go_simp; try with_reducible rfl
        try simp only [pS]
        refine tk 31 rfl (v := ?v153) (.inl ⟨by rfl, ?hy153⟩) ?rest153
        case hy153 => intro w hSw; have hSc := As.fa hSw; go_simp; try with_reducible rfl
        try simp only [pS]
        refine tk 32 rfl (v := ?v154) (.inl ⟨by rfl, ?hy154⟩) ?rest154
        case hy154 => intro w hSw; have hSc := As.fa hSw; go_simp; try with_reducible rfl
        try simp only [pS]
        refine tk 33 rfl (v := ?v155) (.inl ⟨by rfl, ?hy155⟩) ?rest155
        case hy155 => intro w hSw; have hSc := As.fa hSw; go_simp; try with_reducible rfl
        try simp only [pS]
        refine tk 34 rfl (v := ?v156) (.inl ⟨by rfl, ?hy156⟩) ?rest156
        case hy156 => intro w hSw; have hSc := As.fa hSw; go_simp; try with_reducible rfl
        try simp only [pS]
        refine tk 35 rfl (v := ?v157) (.inl ⟨by rfl, ?hy157⟩) ?rest157
        case hy157 => intro w hSw; have hSc := As.fa hSw; go_simp; try with_reducible rfl
        try simp only [pS]
        refine tk 36 rfl (v := ?v158) (.inl ⟨by rfl, ?hy158⟩) ?rest158
        case hy158 => intro w hSw; have hSc := As.fa hSw; go_simp; try with_reducible rfl
        try simp only [pS]
        refine tk 37 rfl (v := ?v159) (.inl ⟨by rfl, ?hy159⟩) ?rest159
        case hy159 => intro w hSw; have hSc := As.fa hSw; go_simp; try with_reducible rfl
        try simp only [pS]
        refine wpAnyH_ready (rs := [3]) (by kernel_rfl) (by simp) ?_
        refine rc rfl fun K hK => ?_
        go_simp
        refine (when_any _ _ _).mono ?_; rintro e ww3 ⟨rfl, hw3⟩; subst hw3
        go_wp2_with fail
        refine hK.out _ _ (by first | exact (uh HS0) | assumption | (dsimp only; assumption)) (fun hHeld2 => ?_)
        clear hK K
        try simp only [pS]
        refine wpAnyH_ready (rs := [8]) (by kernel_rfl) (by simp) ?_
        refine rc rfl fun K hK => ?_
        go_simp
        refine ((uh HNM _)).mono ?_; rintro e w1' ⟨rfl, hb1⟩; have HS1 := hide ((uh HS0).below hb1); have BB1 := hide ((uh BB0).trans (hb1.mono (uh BB0).size)); clear hb1
        go_wp2_with fail
        refine hK.out _ _ (by first | exact (uh HS1) | assumption | (dsimp only; assumption)) (fun hHeld2 => ?_)
        clear hK K
        try simp only [pS]
        refine tk 9 rfl (v := ?v160) (.inl ⟨by rfl, ?hy160⟩) ?rest160
        case hy160 => intro w hSw; have hSc := As.fa hSw; go_simp; try with_reducible rfl
        try simp only [pS]
        refine tk 10 rfl (v := ?v161) (.inl ⟨by rfl, ?hy161⟩) ?rest161
        case hy161 => intro w hSw; have hSc := As.fa hSw; go_simp; try with_reducible rfl
        try simp only [pS]
        refine wpAnyH_ready (rs := [11]) (by kernel_rfl) (by simp) ?_
        refine rc rfl fun K hK => ?_
        go_simp
        refine ((uh HID _)).mono ?_; rintro e w2' ⟨rfl, hb2⟩; have HS2 := hide ((uh HS1).below hb2); have BB2 := hide ((uh BB1).trans (hb2.mono (uh BB1).size)); clear hb2
        go_wp2_with fail
        refine hK.out _ _ (by first | exact (uh HS2) | assumption | (dsimp only; assumption)) (fun hHeld2 => ?_)
        clear hK K
        try simp only [pS]
        refine tk 12 rfl (v := ?v162) (.inl ⟨by rfl, ?hy162⟩) ?rest162
        case hy162 => intro w hSw; have hSc := As.fa hSw; go_simp; try with_reducible rfl
        try simp only [pS]
        refine tk 13 rfl (v := ?v163) (.inl ⟨by rfl, ?hy163⟩) ?rest163
        case hy163 => intro w hSw; have hSc := As.fa hSw; go_simp; try with_reducible rfl
        try simp only [pS]
        refine tk 14 rfl (v := ?v164) (.inl ⟨by rfl, ?hy164⟩) ?rest164
        case hy164 => intro w hSw; have hSc := As.fa hSw; go_simp; try with_reducible rfl
        try simp only [pS]
        refine wpAnyH_ready (rs := [15]) (by kernel_rfl) (by simp) ?_
        refine rc rfl fun K hK => ?_
        go_simp
        refine ((uh HIN _)).mono ?_; rintro e w3' ⟨rfl, hb3⟩; have HS3 := hide ((uh HS2).below hb3); have BB3 := hide ((uh BB2).trans (hb3.mono (uh BB2).size)); clear hb3
        go_wp2_with fail
        refine hK.out _ _ (by first | exact (uh HS3) | assumption | (dsimp only; assumption)) (fun hHeld2 => ?_)
        clear hK K
        try simp only [pS]
        refine tk 16 rfl (v := ?v165) (.inl ⟨by rfl, ?hy165⟩) ?rest165
        case hy165 => intro w hSw; have hSc := As.fa hSw; go_simp; try with_reducible rfl
        try simp only [pS]
        refine tk 17 rfl (v := undef) (.inr ⟨by rfl, rfl⟩) ?_
        try simp only [pS]
        refine tk 18 rfl (v := undef) (.inr ⟨by rfl, rfl⟩) ?_
        try simp only [pS]
        refine tk 19 rfl (v := undef) (.inr ⟨by rfl, rfl⟩) ?_
        try simp only [pS]
        refine tk 20 rfl (v := undef) (.inr ⟨by rfl, rfl⟩) ?_
        try simp only [pS]
        refine tk 21 rfl (v := undef) (.inr ⟨by rfl, rfl⟩) ?_
        try simp only [pS]
        refine tk 22 rfl (v := ?v171) (.inl ⟨by rfl, ?hy171⟩) ?rest171
        case hy171 => intro w hSw; have hSc := As.fa hSw; go_simp; try with_reducible rfl
        try simp only [pS]
        refine tk 23 rfl (v := ?v172) (.inl ⟨by rfl, ?hy172⟩) ?rest172
        case hy172 => intro w hSw; have hSc := As.fa hSw; go_simp; try with_reducible rfl
        try simp only [pS]
        refine wpAnyH_ready (rs := [24]) (by kernel_rfl) (by simp) ?_
        refine rc rfl fun K hK => ?_
        go_simp
        refine (when_any _ _ _).mono ?_; rintro e ww24 ⟨rfl, hw24⟩; subst hw24
        go_wp2_with fail
        refine hK.out _ _ (by first | exact (uh HS3) | assumption | (dsimp only; assumption)) (fun hHeld2 => ?_)
        clear hK K
        try simp only [pS]
        refine wpAnyH_ready (rs := [26]) (by kernel_rfl) (by simp) ?_
        refine rc rfl fun K hK => ?_
        go_simp
        refine ((uh HMF _ (uh HS3).act)).mono ?_; rintro e w4' ⟨rfl, hb4⟩; have HS4 := hide ((uh HS3).below hb4); have BB4 := hide ((uh BB3).trans (hb4.mono (uh BB3).size)); clear hb4
        go_wp2_with fail
        refine hK.out _ _ (by first | exact (uh HS4) | assumption | (dsimp only; assumption)) (fun hHeld2 => ?_)
        clear hK K
        try simp only [pS]
        refine wpAnyH_ready (rs := [29]) (by kernel_rfl) (by simp) ?_
        refine rc rfl fun K hK => ?_
        go_simp
        refine (when_any _ _ _).mono ?_; rintro e ww29 ⟨rfl, hw29⟩; subst hw29
        go_wp2_with fail
        refine hK.out _ _ (by first | exact (uh HS4) | assumption | (dsimp only; assumption)) (fun hHeld2 => ?_)
        clear hK K
        try simp only [pS]
        refine wpAnyH_ready (rs := [38]) (by kernel_rfl) (by simp) ?_
        refine rc rfl fun K hK => ?_
        go_simp
        refine (when_any _ _ _).mono ?_; rintro e ww38 ⟨rfl, hw38⟩; subst hw38
        go_wp2_with fail
        refine hK.out _ _ (by first | exact (uh HS4) | assumption | (dsimp only; assumption)) (fun hHeld2 => ?_)
        clear hK K
        try simp only [pS]
        refine wpAnyH_ready (rs := [39]) (by kernel_rfl) (by simp) ?_
        refine rc rfl fun K hK => ?_
        go_simp
        skip
        go_wp2_with fail
        refine hK.out _ _ (by first | exact ((uh HS4).al _) | assumption | (dsimp only; assumption)) (fun hHeld2 => ?_)
        clear hK K
        try simp only [pS]
        refine wpAnyH_ready (rs := [40]) (by kernel_rfl) (by simp) ?_
        refine rc rfl fun K hK => ?_
        go_simp
        refine (or5_any _ _ _ _ _ _ _ rfl).mono ?_; rintro e ww40 ⟨rfl, hw40⟩; subst hw40
        go_wp2_with fail
        refine hK.out _ _ (by first | exact ((uh HS4).al _) | assumption | (dsimp only; assumption)) (fun hHeld2 => ?_)
        clear hK K
        try simp only [pS]
        refine tk 41 rfl (v := ?v173) (.inl ⟨by rfl, ?hy173⟩) ?rest173
        case hy173 => intro w hSw; have hSc := As.fa hSw; go_simp; try with_reducible rfl
        try simp only [pS]
        refine wpAnyH_done (by kernel_rfl) ?_ _
        go_wp2_with fail
        go_meet
        exact ⟨by rw [uh HWR, uh hER]; first | rfl | simp only [Bool.true_or, Bool.false_or, Bool.true_and, Bool.false_and, Bool.or_false, Bool.or_true], (uh HS4).al _, (uh BB4).alloc (uh BB4).size _⟩
    case rest =>
      obtain ⟨rfl, HS, HBB⟩ := hcut
      have HFw := hide ((uh HF1).below (uh HBB))
      rw [uh HW1] at HBB
      have HDB : Hid (er = 0 → a.c.data.length ≤ 65536) := by
        show _ → _
        intro h0
        by_cases hq : (65536 : Int) < (a.c.data.length : Int)
        · have e := uh hER
          rw [decide_eq_true hq] at e
          simp [orP, wh] at e
          omega
        · omega
      clear HS0 BB0 hER HF1 HMF HNM HID hH1 hM1 HM HS2 HBB2
      by_cases her : er = 0
      rotate_left
      · have HA := HS
        have HRD := hide (room_cells (uh HBB))
        have HF := hide (room_below (uh HBB) (.slice none 0 0) (.int .i64 0))
        have HK2 : Hid (RR = no er) := by show _ = _; rw [uh HK, if_pos her]
        obtain ⟨r0, r1, z0, z1⟩ := uh HRD
        have hern : (er != 0) = true := by simpa using her
        clear HRD HK HBB HA
        go_wp2_with fail
        refine bodyPost_ret (v := .tuple #[.agg #[.slice none 0 0, .int .i64 0], .int .i64 er]) (by simp [results, Tryz.results185, go_sem, r0, r1]) rfl ?_
        show DoR RR w _ _
        rw [uh HK2]
        exact ⟨⟨_, rfl, ot_nil _ _⟩, uh HF⟩
      have hdl2 : a.c.data.length ≤ 65536 := uh HDB her
      have HK2 : Hid (RR = yes a.now (upd (upd R.1 R.2 fun y => { y with data := ahead ++ a.c.data }) R.2 fun y => { y with time := a.now })) := by show _ = _; rw [uh HK, if_neg (fun q => q her)]
      have hern : (er != 0) = false := by simpa using her
      subst her
      clear HK hern
      have HRB : Hid (w.heap.size < wc.heap.size) := by show _ < _; have := (uh HBB).size; simp at this; omega
      have HCP := hide (copy_any (uh HS).act)
      go_wp2_with fail
      refine (uh HCP).mono ?_
      rintro e w4 ⟨⟨D, v2, l2, rfl, hdf2, hm2⟩, hb2⟩
      have HKK : Hid (pd < l2.length ∧ (l2.getD pd zNv).1.kind = 2 ∧ 2 ≤ l2.length ∧ l2.length ≤ 1000000 ∧ Rises (l2.getD pd zNv).1.list ∧ (l2.getD pd zNv).1.list.length ≤ 100000 ∧ (-1000000000 ≤ (l2.getD pd zNv).1.links ∧ (l2.getD pd zNv).1.links ≤ 1000000000)) := by
        obtain ⟨k1, k2, k3, k4, k5, k6⟩ := dir_ok (uh HCK) (uh HDRr) hm2
        have q := congrArg List.length hm2
        have q2 := (uh HS).act.len
        rw [List.length_map] at q
        exact ⟨k1, k2, by omega, by omega, k3, k4, k5, k6⟩
      have HS4 := hide ((uh HS).below hb2)
      have CB4 := hide hb2
      have HD4 := hide hdf2
      have HMl := hide hm2
      obtain ⟨-, -, -, -, -, -, -, -, -, -, -, -, -, -, -, -, c16, -⟩ := (uh HS4).act.cells
      obtain ⟨n0, n1, n2, n3, n4, n5, n6, n7, n8, n9⟩ := (uh HS4).node
      rw [uh HPM] at c16
      have HAw := hide (uh HS).act
      clear hdf2 hm2 hb2 HCP HS
      go_wp2_with fail
      refine (uh HIN _).mono ?_
      rintro e w5 ⟨rfl, hb5⟩
      have HS5 := hide ((uh HS4).below hb5)
      have CB5 := hide ((uh CB4).trans (hb5.mono (uh CB4).size))
      have HD5 := hide ((uh HD4).below hb5)
      obtain ⟨b, hb⟩ : ∃ b, b = isN a.here := ⟨_, rfl⟩
      rw [← hb] at hR ⊢
      clear hb5 HIN hb c16 n0 n1 n2 n3 n4 n5 n6 n7 n8 n9 HS4 HD4 CB4
      go_upto_if 87 with fail
      go_cut [13] (fun u wx => ∃ (Wo : World) (r g n2 c : Nat) (l : List Nv), u = .int .i64 r ∧ r < n2 ∧ Hid (r < l.length) ∧ Hid (r = R.2) ∧ Hid (Df wx Wo.heap.size D a.now (sg g n2 c) l) ∧ Hid (l.map (·.1) = R.1) ∧ Hid (Below Wo.heap.size Wo wx) ∧ Hid (w.heap.size < Wo.heap.size) ∧ Hid (Below (w.alloc (.cells zTree 24)).heap.size (w.alloc (.cells zTree 24)) Wo) ∧ Hid (By Wo fa ahead.length fc ahead) ∧ Hid (At Wo A x n cap dx dc a))
      case first =>
        rcases b with _ | _
        · have hR1 : R = (a.ns, a.p.node.toNat) := uh hR
          go_wp2_with fail
          go_meet
          obtain ⟨g, c, hvg⟩ := (uh HD5).at (by have := (uh HKK).2.2.1; omega)
          have HD6 := uh HD5
          rw [hvg] at HD6
          have hl2 : l2.length = a.ns.length := by have q := congrArg List.length (uh HMl); rw [List.length_map] at q; exact q
          exact ⟨_, pm, g, l2.length, c, l2, rfl, by rw [hl2]; exact uh HPN, by (show _ < _; rw [hl2]; exact uh HPN), by (show _ = _; rw [hR1, uh HPM]; rfl), HD6, by (show _ = _; rw [hR1]; exact uh HMl), uh CB5, HRB, HBB, HFw, HAw⟩
        · have hR1 : R = addD a.now a.ns a.p.dir.toNat a.p.name (a.newNode 1) := uh hR
          have HR1 := hide hR1
          clear hR1
          have HSA : Hid (At w5.drew A x n cap dx dc a) := (uh HS5).act.dr
          have HDA : Hid (Df w5.drew wc.heap.size D a.now v2 l2) := (uh HD5).dr
          have CBA : Hid (Below wc.heap.size wc w5.drew) := below_dr (uh CB5)
          clear HS5 HD5 CB5
          go_wp2_with fail
          refine wp_region_held_drew (S := (fun w' => At w' A x n cap dx dc a)) (by kernel_rfl) (uh HSA) (fun hHeld => ?_)
          refine tk 0 rfl (v := ?v174) (.inl ⟨by rfl, ?hy174⟩) ?rest174
          case hy174 => intro w hSw; have hSc := At.cells hSw; go_simp; try with_reducible rfl
          try simp only [pS]
          refine tk 1 rfl (v := ?v175) (.inl ⟨by rfl, ?hy175⟩) ?rest175
          case hy175 => intro w hSw; have hSc := At.cells hSw; go_simp; try with_reducible rfl
          try simp only [pS]
          refine tk 2 rfl (v := ?v176) (.inl ⟨by rfl, ?hy176⟩) ?rest176
          case hy176 => intro w hSw; have hSc := At.cells hSw; go_simp; try with_reducible rfl
          try simp only [pS]
          refine tk 3 rfl (v := ?v177) (.inl ⟨by rfl, ?hy177⟩) ?rest177
          case hy177 => intro w hSw; have hSc := At.cells hSw; go_simp; try with_reducible rfl
          try simp only [pS]
          refine tk 4 rfl (v := ?v178) (.inl ⟨by rfl, ?hy178⟩) ?rest178
          case hy178 => intro w hSw; have hSc := At.cells hSw; go_simp; try with_reducible rfl
          try simp only [pS]
          refine tk 5 rfl (v := ?v179) (.inl ⟨by rfl, ?hy179⟩) ?rest179
          case hy179 => intro w hSw; have hSc := At.cells hSw; go_simp; try with_reducible rfl
          try simp only [pS]
          refine wpAnyH_ready (rs := [6]) (by kernel_rfl) (by simp) ?_
          refine rc rfl fun K hK => ?_
          go_simp
          refine (uh HNN _ (uh HSA)).mono ?_; rintro e w6 ⟨rfl, hb6⟩; have HSB := hide ((uh HSA).below hb6); have HDB := hide ((uh HDA).below hb6); have CBB := hide ((uh CBA).trans (hb6.mono (uh CBA).size)); have HAD := hide (uh HADD wc.heap.size D _ l2 w6 (uh HDB) (uh CBB).size (uh HKK).1 (uh HKK).2.1 (uh HKK).2.2.1 (uh HKK).2.2.2.1 (uh HKK).2.2.2.2.1 (uh HKK).2.2.2.2.2.1 (uh HKK).2.2.2.2.2.2); clear hb6
          go_wp2_with fail
          refine hK.out _ _ (by first | exact (uh HSB) | assumption | (dsimp only; assumption)) (fun hHeld2 => ?_)
          clear hK K
          try simp only [pS]
          refine wpAnyH_ready (rs := [7]) (by kernel_rfl) (by simp) ?_
          refine rc rfl fun K hK => ?_
          go_simp
          refine (uh HAD).mono ?_; rintro e w7 ⟨rfl, ⟨v5, l5, hdf5, hm5⟩, hb7⟩; obtain ⟨va5, vc5, hv5⟩ := own_sl hdf5.row; subst hv5; have CBC := hide ((uh CBB).trans hb7); have HSC := hide ((uh HAw).below (uh CBC)); have HDC := hide hdf5; have HMC := hide hm5; clear hdf5 hm5 hb7
          go_wp2_with fail
          refine hK.out _ _ (by first | exact (uh HSC) | assumption | (dsimp only; assumption)) (fun hHeld2 => ?_)
          clear hK K
          try simp only [pS]
          refine tk 8 rfl (v := ?v180) (.inl ⟨by rfl, ?hy180⟩) ?rest180
          case hy180 => intro w hSw; have hSc := At.cells hSw; go_simp; try with_reducible rfl
          try simp only [pS]
          refine wpAnyH_done (by kernel_rfl) ?_ _
          go_wp2_with fail
          go_meet
          have hR2 : (addD a.now (l2.map (·.1)) pd a.p.name (a.newNode 1)).1 = R.1 ∧ freeAt (l2.map (·.1)) = R.2 := by rw [uh HR1, uh HMl, uh HPDN]; exact ⟨rfl, rfl⟩
          have hlt : freeAt (l2.map (·.1)) < l5.length := by
            have q := congrArg List.length (uh HMC)
            have q2 := addD_lt a.now (l2.map (·.1)) pd a.p.name (a.newNode 1) (by rw [List.length_map]; exact (uh HKK).2.2.1)
            rw [List.length_map] at q
            omega
          obtain ⟨g, c, hvg⟩ := (uh HDC).at (by omega)
          have HD6 := uh HDC
          rw [hvg] at HD6
          exact ⟨_, _, g, l5.length, c, l5, rfl, hlt, hlt, hR2.2, HD6, (uh HMC).trans hR2.1, uh CBC, HRB, HBB, HFw, HAw⟩
      case rest =>
        clear HS5 HD5 CB5 HKK HMl HRB HBB HFw HAw hR HADD HNN
        obtain ⟨Wo, r, g, n2, c, l, rfl, hrn, HRL, HRr, HD6, HM6, CB6, HRB, HBB, HFw, HAw⟩ := hcut
        have hrn2 : (r : Int) < (n2 : Int) := by omega
        have HD7 : Hid (Df wc.drew Wo.heap.size D a.now (sg g n2 c) l) := (uh HD6).dr
        have CBV : Hid (Below Wo.heap.size Wo wc.drew) := below_dr (uh CB6)
        have HA7 := hide ((uh HAw).below (uh CBV))
        have HF7 := hide ((uh HFw).below (uh CBV))
        have HCB := hide (copyByte_any fa ahead.length fc (Lib.byteCells ahead) wc.drew (by simp [Lib.byteCells]) (by omega) (byteCells_one _) (byGet (uh HF7)))
        obtain ⟨i0, hi0, hz0, hz1, hz2⟩ := info_parts Tryz.infoByte
        clear HD6 CB6
        go_wp2_with fail
        refine wp_region_held_drew (S := (fun w' => w'.cell? ⟨D, 0, none⟩ = some (sg g n2 c))) (by kernel_rfl) (uh HD7).cells.1 (fun hHeld => ?_)
        refine tk 0 rfl (v := ?v181) (.inl ⟨by rfl, ?hy181⟩) ?rest181
        case hy181 => intro w hSw; skip; go_simp; try with_reducible rfl
        try simp only [pS]
        refine tk 1 rfl (v := ?v182) (.inl ⟨by rfl, ?hy182⟩) ?rest182
        case hy182 => intro w hSw; skip; go_simp; try with_reducible rfl
        try simp only [pS]
        refine tk 2 rfl (v := ?v183) (.inl ⟨by rfl, ?hy183⟩) ?rest183
        case hy183 => intro w hSw; skip; go_simp; try with_reducible rfl
        try simp only [pS]
        refine tk 3 rfl (v := ?v184) (.inl ⟨by rfl, ?hy184⟩) ?rest184
        case hy184 => intro w hSw; skip; go_simp; try with_reducible rfl
        try simp only [pS]
        refine tk 4 rfl (v := ?v185) (.inl ⟨by rfl, ?hy185⟩) ?rest185
        case hy185 => intro w hSw; skip; go_simp; try with_reducible rfl
        try simp only [pS]
        refine tk 5 rfl (v := ?v186) (.inl ⟨by rfl, ?hy186⟩) ?rest186
        case hy186 => intro w hSw; skip; go_simp; try with_reducible rfl
        try simp only [pS]
        refine tk 6 rfl (v := ?v187) (.inl ⟨by rfl, ?hy187⟩) ?rest187
        case hy187 => intro w hSw; skip; go_simp; try with_reducible rfl
        try simp only [pS]
        refine tk 8 rfl (v := ?v188) (.inl ⟨by rfl, ?hy188⟩) ?rest188
        case hy188 => intro w hSw; skip; go_simp; try with_reducible rfl
        try simp only [pS]
        refine wpAnyH_ready (rs := [7]) (by kernel_rfl) (by simp) ?_
        refine rc rfl fun K hK => ?_
        go_simp
        refine (uh HCB).mono ?_; rintro e w8 ⟨⟨cv, rfl, hrow⟩, hb8⟩; obtain ⟨cva, cvc, hcv⟩ := own_sl hrow; subst hcv; have HRW := hide hrow; have CB8 := hide hb8; have HD8 := hide ((uh HD7).below hb8); have HB8 := hide ((uh HA7).dat.below hb8); clear hrow hb8
        go_wp2_with fail
        refine hK.out _ _ (by first | exact (uh HD8).cells.1 | assumption | (dsimp only; assumption)) (fun hHeld2 => ?_)
        clear hK K
        try simp only [pS]
        refine wpAnyH_ready (rs := [9]) (by kernel_rfl) (by simp) ?_
        refine rc rfl fun K hK => ?_
        refine step_append_any rfl (.tmp 103) (.tmp 104) 30 rfl wc.drew.heap.size 5 i0 _ 1 1 Tryz.underlying30 hi0 hz0 hz1 hz2 rfl (by decide) (.slice cva ahead.length cvc) ahead.length (Lib.byteCells ahead) (by rfl) (uh HRW) dx a.c.data.length dc (Lib.byteCells a.c.data) (by rfl) (uh HB8).nil (by simp [Lib.byteCells]) (By.newsF (uh HB8)) (byteCells_one _) (by unfold maxLen; omega) (by omega) (uh CB8).size ?_; intro v' w9 hown9 hg9; obtain ⟨va, vc, hv⟩ := own_sl hown9; subst hv; have CB9 : Hid (Below wc.drew.heap.size wc.drew w9) := (uh CB8).grown hg9 (uh CB8).size (fun k hk => ((uh HRW).lt k hk).1); have HD9 := hide ((uh HD7).below (uh CB9)); have HRX : Hid (Row wc.drew.heap.size (.slice va (ahead.length + a.c.data.length) vc) (ahead ++ a.c.data) w9) := (by show World.ownsRow _ _ _ _ _ _ _; rw [List.length_append, Lib.byteCells_append]; exact hown9); have HDX := hide ((uh HD7).redata (uh HD9) r (uh HRL) (uh HRX) (uh CBV).size); obtain ⟨m2, dv2, lv2, hx2⟩ : ∃ m2 dv2 lv2, l.getD r zNv = (m2, dv2, lv2) := ⟨_, _, _, rfl⟩; obtain ⟨n0, n1, n2', n3, n4, n5, n6, n7, n8, n9⟩ := (uh HD9).ten r (uh HRL) hx2; have fz := (uh HD9).frozen (r * 10 + 6); clear hown9 hg9 hx2
        try simp only [pS]
        refine hK.out _ _ (by first | exact (uh HD9).cells.1 | assumption | (dsimp only; assumption)) (fun hHeld2 => ?_)
        clear hK K
        try simp only [pS]
        refine tk 10 rfl (v := ?v189) (.inl ⟨by rfl, ?hy189⟩) ?rest189
        case hy189 => intro w hSw; skip; go_simp; try with_reducible rfl
        try simp only [pS]
        refine tk 11 rfl (v := ?v190) (.inl ⟨by rfl, ?hy190⟩) ?rest190
        case hy190 => intro w hSw; skip; go_simp; try with_reducible rfl
        try simp only [pS]
        refine wpAnyH_ready (rs := [12]) (by kernel_rfl) (by simp) ?_
        refine rc rfl fun K hK => ?_
        go_simp
        skip
        go_wp2_with fail
        refine hK.out _ _ (by first | exact (uh HDX).cells.1 | assumption | (dsimp only; assumption)) (fun hHeld2 => ?_)
        clear hK K
        try simp only [pS]
        refine wpAnyH_done (by kernel_rfl) ?_ _
        obtain ⟨wa, hwa⟩ : ∃ wa, wa = w9.setCell ⟨g, r * 10 + 6, none⟩ (.slice va (ahead.length + a.c.data.length) vc) := ⟨_, rfl⟩
        rw [← hwa]
        have HDa : Hid (Df wa Wo.heap.size D a.now (sg g n2 c) (l.set r ({ (l.getD r zNv).1 with data := ahead ++ a.c.data }, .slice va (ahead.length + a.c.data.length) vc, (l.getD r zNv).2.2))) := by rw [hwa]; exact uh HDX
        have CBa : Hid (Below Wo.heap.size Wo wa) := by rw [hwa]; exact ((uh CBV).trans ((uh CB9).mono (uh CBV).size)).setCell (p := ⟨g, _, none⟩) (uh HD7).ne.2.1 _
        have HMa : Hid ((l.set r ({ (l.getD r zNv).1 with data := ahead ++ a.c.data }, .slice va (ahead.length + a.c.data.length) vc, (l.getD r zNv).2.2)).map (·.1) = upd R.1 R.2 fun y => { y with data := ahead ++ a.c.data }) := by
          show _ = _
          rw [← uh HRr, ← uh HM6]
          exact upd_fst l r (uh HRL) (fun y => { y with data := ahead ++ a.c.data }) _
        have HLa : Hid (r < (l.set r ({ (l.getD r zNv).1 with data := ahead ++ a.c.data }, .slice va (ahead.length + a.c.data.length) vc, (l.getD r zNv).2.2)).length) := by show _ < _; rw [List.length_set]; exact uh HRL
        generalize l.set r ({ (l.getD r zNv).1 with data := ahead ++ a.c.data }, .slice va (ahead.length + a.c.data.length) vc, (l.getD r zNv).2.2) = l3 at HDa HMa HLa
        clear HDX hwa n0 n1 n2' n3 n4 n5 n6 n7 n8 n9 fz HD9 HRX HRW CB8 HD8 HB8 HCB
        obtain ⟨m2, dv2, lv2, hx2⟩ : ∃ m2 dv2 lv2, l3.getD r zNv = (m2, dv2, lv2) := ⟨_, _, _, rfl⟩
        obtain ⟨n0, n1, n2', n3, n4, n5, n6, n7, n8, n9⟩ := (uh HDa).ten r (uh HLa) hx2
        have fz := (uh HDa).frozen (r * 10 + 5)
        obtain ⟨t0, t1, -⟩ := (uh HDa).cells
        have HD12 := hide (((uh HDa).upd1 r 5 (.int .i64 a.now) (fun y => { y with time := a.now }) (uh HLa) (by omega) (fun _ _ _ => .inl rfl) (fun _ => rfl) (fun _ => rfl)).dr)
        have CB12 : Hid (Below Wo.heap.size Wo (wa.setCell ⟨g, r * 10 + 5, none⟩ (.int .i64 a.now)).drew) := below_dr ((uh CBa).setCell (p := ⟨g, r * 10 + 5, none⟩) (uh HDa).ne.2.1 (.int .i64 a.now))
        have HM12 : Hid ((updL l3 r fun y => { y with time := a.now }).map (·.1) = upd (upd R.1 R.2 fun y => { y with data := ahead ++ a.c.data }) R.2 fun y => { y with time := a.now }) := by show _ = _; rw [updL_fst _ _ (uh HLa), uh HMa, uh HRr]
        generalize updL l3 r (fun y => { y with time := a.now }) = l4 at HD12 HM12
        clear hx2
        go_wp2_with fail
        go_region
        go_upto_region 13 with fail
        obtain ⟨wb, hwb⟩ : ∃ wb, wb = (wa.setCell ⟨g, r * 10 + 5, none⟩ (.int .i64 a.now)).drew := ⟨_, rfl⟩
        rw [← hwb]
        rw [← hwb] at HD12 CB12
        clear n0 n1 n2' n3 n4 n5 n6 n7 n8 n9 fz t0 t1 HDa CBa HMa HLa hwb
        have HBW := hide ((uh HBB).trans ((uh CB12).mono (by have := uh HRB; have := (uh HBB).size; omega)))
        obtain ⟨r0, r1, z0, z1⟩ := room_cells (uh HBW)
        obtain ⟨t0, t1, -⟩ := (uh HD12).cells
        have HDF := hide (((uh HD12).room (uh HRB) (sg g n2 c) (.int .i64 a.now)).ot (Nat.le_of_lt (uh HRB)) (uh HM12))
        have HF := hide (room_below (uh HBW) (sg g n2 c) (.int .i64 a.now))
        have hDR := hide ((uh HD12).hD)
        go_wp2_with fail
        refine bodyPost_ret (v := .tuple #[.agg #[(sg g n2 c), .int .i64 a.now], .int .i64 0]) (by simp [results, Tryz.results185, go_sem, r0, r1]) rfl ?_
        show DoR RR w _ _
        rw [uh HK2]
        exact ⟨⟨_, rfl, uh HDF⟩, uh HF⟩
end Go.Proofs.YtidhceebafmlkaaGreatDoor.Ca
