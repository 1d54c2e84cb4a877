/- What the document's action answers. -/
import Derived.Test.YtijknodbaddelaaGreatDoorMoRefA
import Derived.Deep.DeepCutAuto
import Derived.Deep.CutBlock
namespace Go.Proofs.YtijknodbaddelaaGreatDoor.Mo
open Go.RowKit Go.Shelf

theorem own_one (w : World) (x : Ch) : (w.alloc (.cells (cc x).toArray 54)).ownsRow w.heap.size 54 5 (.slice (some ⟨w.heap.size, 0, none⟩) 1 1) 1 (cc x) := by
  have := lit_own w [x] (by unfold maxLen; simp)
  simpa [cl] using this
/-- a change that lies alone at g -/
abbrev One (w : World) (g : Nat) (x : Ch) : Prop := w.ownsRow g 54 5 (.slice (some ⟨g, 0, none⟩) 1 1) 1 (cc x)
theorem One.keep {w w' : World} {g g' : Nat} {x : Ch} (h : One w g x) (hg : w.grownBy w' (some g')) (hne : g ≠ g') : One w' g x := h.kept hg (.inr (by simp [Value.ownBlock]; exact hne))
theorem One.set {w : World} {g : Nat} {x x' : Ch} (h : One w g x) (j : Nat) (v : Value) (e : (cc x).set j v = cc x') : One (w.setCell ⟨g, j, none⟩ v) g x' ∧ w.grownBy (w.setCell ⟨g, j, none⟩ v) (some g) := by
  obtain ⟨h1, h2⟩ := h.stored j v
  rw [e] at h1
  exact ⟨h1, h2⟩
theorem one_store {W : World} {g : Nat} {z : Ch} (x : Ch) (h : One W g z) : One (((((W.setCell ⟨g, 0, none⟩ (.int .i64 x.who)).setCell ⟨g, 1, none⟩ (.int .u8 (x.op.toNat : Int))).setCell ⟨g, 2, none⟩ (.int .i64 x.bits)).setCell ⟨g, 3, none⟩ (.int .u8 (x.cp.toNat : Int))).setCell ⟨g, 4, none⟩ (.bool x.dirs)) g x := by
  have h0 := (h.stored 0 (.int .i64 x.who)).1
  have h1 := (h0.stored 1 (.int .u8 (x.op.toNat : Int))).1
  have h2 := (h1.stored 2 (.int .i64 x.bits)).1
  have h3 := (h2.stored 3 (.int .u8 (x.cp.toNat : Int))).1
  exact (h3.stored 4 (.bool x.dirs)).1
theorem One.c0 {W : World} {g : Nat} {x : Ch} (h : One W g x) : W.cell? ⟨g, 0, none⟩ = some (.int .i64 x.who) := h.cellAt 0 (by decide)
theorem One.c1 {W : World} {g : Nat} {x : Ch} (h : One W g x) : W.cell? ⟨g, 1, none⟩ = some (.int .u8 (x.op.toNat : Int)) := h.cellAt 1 (by decide)
theorem One.c2 {W : World} {g : Nat} {x : Ch} (h : One W g x) : W.cell? ⟨g, 2, none⟩ = some (.int .i64 x.bits) := h.cellAt 2 (by decide)
theorem One.c3 {W : World} {g : Nat} {x : Ch} (h : One W g x) : W.cell? ⟨g, 3, none⟩ = some (.int .u8 (x.cp.toNat : Int)) := h.cellAt 3 (by decide)
theorem One.c4 {W : World} {g : Nat} {x : Ch} (h : One W g x) : W.cell? ⟨g, 4, none⟩ = some (.bool x.dirs) := h.cellAt 4 (by decide)
set_option maxHeartbeats 1000000 in
set_option maxRecDepth 100000 in
theorem action_loop (s : ByteArray) (who : Int) (w : World) (h0 : 0 < s.size) (hs : s.size ≤ 4096) (ho : isOp (s[0].toNat : Int) = true) (hd : ∀ h : 1 < s.size, (s[1].toNat : Int) ≠ 117 ∧ (s[1].toNat : Int) ≠ 103 ∧ (s[1].toNat : Int) ≠ 111) :
    Calls Tryz.prog 58 #[.string s, .int .i64 who] w (AcR w (bs s) who) := by
  have hz : ((s.size : Int) == 0) = false := by rw [beq_eq_false_iff_ne]; omega
  have hst := hide (Runs.start (who := who) (bs_at s 0 h0) ho)
  have kop := kop_of s h0 ho
  unfold Kop at kop
  have kcp : (¬ 1 < (s.size : Int)) ∨ ∃ h : 1 < s.size, 1 < (s.size : Int) ∧ ((s[1].toNat : Int) == 117) = false ∧ ((s[1].toNat : Int) == 103) = false ∧ ((s[1].toNat : Int) == 111) = false := by
    by_cases h : 1 < s.size
    · obtain ⟨a, b, c⟩ := hd h
      exact .inr ⟨h, by omega, by rw [beq_eq_false_iff_ne]; exact a, by rw [beq_eq_false_iff_ne]; exact b, by rw [beq_eq_false_iff_ne]; exact c⟩
    · exact .inl (by omega)
  have HD := hide hd
  clear hd ho
  obtain ⟨c, hc⟩ : ∃ c, c = s[0] := ⟨_, rfl⟩
  rw [← hc] at kop hst
  have hs0 : s[0] = c := hc.symm
  clear hc
  go_enter Tryz.func58, Tryz.ntmps58
  go_upto_region 1 with fail
  go_cut [25] (fun v wx => wx = w.alloc (.cells #[.int .i64 0, .int .u8 0, .int .i64 0, .int .u8 0, .bool false] 54) ∧ v = .bool false)
  case first =>
    rcases kop with k1 | ⟨k1, k2⟩ | ⟨k1, k2, k3⟩
    all_goals
      go_wp2_with fail
      go_meet
      exact ⟨rfl, rfl⟩
  case rest =>
    obtain ⟨rfl, rfl⟩ := hcut
    clear kop
    go_upto_region 4 with fail
    go_cut [48] (fun v wx => wx = ((w.alloc (.cells #[.int .i64 0, .int .u8 0, .int .i64 0, .int .u8 0, .bool false] 54)).alloc (.cells #[.int .i64 who, .int .u8 (c.toNat : Int), .int .i64 0, .int .u8 0, .bool false] 54)) ∧ v = .bool false)
    case first =>
      rcases kcp with q0 | ⟨q, q0, q1, q2, q3⟩
      all_goals
        go_wp2_with fail
        go_meet
        exact ⟨rfl, rfl⟩
    case rest =>
      obtain ⟨rfl, rfl⟩ := hcut
      clear kcp
      obtain ⟨W2, hW2⟩ : ∃ W, W = ((w.alloc (.cells #[.int .i64 0, .int .u8 0, .int .i64 0, .int .u8 0, .bool false] 54)).alloc (.cells #[.int .i64 who, .int .u8 (c.toNat : Int), .int .i64 0, .int .u8 0, .bool false] 54)) := ⟨_, rfl⟩
      have hx0 : Hid (One W2 (w.heap.size + 1) ⟨who, c, ((0 : Nat) : Int), 0, false⟩) := by
        have := own_one (w.alloc (.cells #[.int .i64 0, .int .u8 0, .int .i64 0, .int .u8 0, .bool false] 54)) ⟨who, c, 0, 0, false⟩
        have e : (w.alloc (.cells #[.int .i64 0, .int .u8 0, .int .i64 0, .int .u8 0, .bool false] 54)).heap.size = w.heap.size + 1 := by simp
        rw [e] at this
        rw [hW2]; exact this
      have hr0 : Hid (One W2 w.heap.size ⟨0, 0, 0, 0, false⟩) := by rw [hW2]; exact (own_one w ⟨0, 0, 0, 0, false⟩).alloc _
      have hB2 : Hid (Below w.heap.size w W2) := by rw [hW2]; exact ((Below.refl _ w).alloc (Nat.le_refl _) _).alloc (by simp) _
      rw [← hW2]
      clear hW2
      go_wp2
      go_loopw [7] (fun v7 wx => ∃ (i b : Nat) (d : Bool), v7 = .int .i64 i ∧ 1 ≤ i ∧ i ≤ s.size ∧ b < 8 ∧ Hid (i = 1 ∨ b ≠ 0 ∨ d = true) ∧ Hid (Runs (bs s) who i ⟨who, c, (b : Int), 0, d⟩) ∧ Hid (One wx (w.heap.size + 1) ⟨who, c, (b : Int), 0, d⟩) ∧ Hid (One wx w.heap.size ⟨0, 0, 0, 0, false⟩) ∧ Hid (Below w.heap.size w wx)) (fun v7 _ => s.size - (intOf v7).toNat)
      case atStart => exact ⟨1, 0, false, rfl, Nat.le_refl _, h0, by decide, .inl rfl, hst, hx0, hr0, hB2⟩
      case round =>
        clear hx0 hr0 hB2 hst W2
        obtain ⟨i, b, d, rfl, hi1, hi, hb8, hE, hR, hX, hZ, hB⟩ := hrel
        have hgl : w.heap.size + 1 < wr.heap.size := ((unhide hX).lt _ rfl).2
        by_cases hlt : i < s.size
        · have hlt' : (i : Int) < (s.size : Int) := by omega
          obtain ⟨r, hr⟩ : ∃ r : UInt8, r = s[i] := ⟨_, rfl⟩
          have hbi := hide (bs_at s i hlt)
          rw [← hr] at hbi
          have hsi : s[i] = r := hr.symm
          have HR1 : Hid (i = 1 → (r.toNat : Int) ≠ 117 ∧ (r.toNat : Int) ≠ 103 ∧ (r.toNat : Int) ≠ 111) := by
            intro e
            subst e
            have := unhide HD hlt
            rw [hsi] at this
            exact this
          clear hr
          by_cases htake : 0 < bitZ (r.toNat : Int) ∨ (r.toNat : Int) = 88
          · obtain ⟨n, hn8, hor, hadd, hne, hop⟩ := add_go who c b d (r.toNat : Int) hb8 htake
            have hR2 := hide ((unhide hR).snoc (unhide hbi) hop hadd)
            have h88 : ((r.toNat : Int) == 88) = decide ((r.toNat : Int) = 88) := by rw [Bool.eq_iff_iff]; simp
            have hB8 : bitZ (r.toNat : Int) ≤ 0 → (r.toNat : Int) = 88 := fun h => htake.resolve_left (by omega)
            have C : Hid (∀ W, Calls Tryz.prog 86 #[.int .u8 (r.toNat : Int)] W fun e w' => e = .returned (.int .i64 (bitZ (r.toNat : Int))) ∧ Below W.heap.size W w') := fun W => (rbit_any _ W).mono (fun _ _ h => ⟨h.1, by rw [h.2]; exact Below.refl _ _⟩)
            obtain ⟨t, ht⟩ : ∃ t, t = ((r.toNat : Int) == 88) := ⟨_, rfl⟩
            rw [← ht] at hne hadd hR2
            have hBt : Hid (bitZ (r.toNat : Int) ≤ 0 → t = true) := fun h => by rw [ht, hB8 h]; rfl
            have h88' : ((r.toNat : Int) == 88) = t := ht.symm
            generalize bitZ (r.toNat : Int) = B at *
            have hfin : Hid (∀ w', Below wr.heap.size wr w' → One ((w'.setCell ⟨w.heap.size + 1, 2, none⟩ (.int .i64 (n : Int))).setCell ⟨w.heap.size + 1, 4, none⟩ (.bool (d || t))) (w.heap.size + 1) ⟨who, c, (n : Int), 0, d || t⟩ ∧ One ((w'.setCell ⟨w.heap.size + 1, 2, none⟩ (.int .i64 (n : Int))).setCell ⟨w.heap.size + 1, 4, none⟩ (.bool (d || t))) w.heap.size ⟨0, 0, 0, 0, false⟩ ∧ Below w.heap.size w ((w'.setCell ⟨w.heap.size + 1, 2, none⟩ (.int .i64 (n : Int))).setCell ⟨w.heap.size + 1, 4, none⟩ (.bool (d || t)))) := by
              intro w' hb
              obtain ⟨s1, s2⟩ := One.set (own_below (unhide hX) hb) 2 (.int .i64 (n : Int)) (x' := ⟨who, c, (n : Int), 0, d⟩) rfl
              obtain ⟨s3, s4⟩ := One.set s1 4 (.bool (d || t)) (x' := ⟨who, c, (n : Int), 0, d || t⟩) rfl
              refine ⟨s3, One.keep (One.keep (own_below (unhide hZ) hb) s2 (by omega)) s4 (by omega), (((unhide hB).trans (hb.mono (unhide hB).size)).setCell (by simp) _).setCell (by simp) _⟩
            have c2 := (unhide hX).c2
            have c4 := (unhide hX).c4
            simp only at c2 c4
            have f2 := (unhide hX).frozenAt 2
            have f4 := (unhide hX).frozenAt 4
            have HOR : Hid (orI (b : Int) B = (n : Int)) := hor
            have HNE := hide hne
            clear hne hor hadd hop hX hZ hB hR hE hbi HR1 htake hB8 h88 ht
            have hor : bits .or .i64 (b : Int) B = (n : Int) := unhide HOR
            by_cases hBp : 0 < B
            · go_wp2_with fail
              all_goals
                refine (unhide C _).mono ?_
                rintro e w0 ⟨rfl, hb⟩
                have hbb0 : Below wr.heap.size wr w0 := ⟨hb.os, hb.tape, hb.output, hb.size, hb.block⟩
                have e2 := (hbb0.cell (p := ⟨w.heap.size + 1, 2, none⟩) hgl).trans c2
                have e4 := (hbb0.cell (p := ⟨w.heap.size + 1, 4, none⟩) hgl).trans c4
                have e5 := (hbb0.frozen (p := ⟨w.heap.size + 1, 2, none⟩) hgl).trans f2
                have e6 := (hbb0.frozen (p := ⟨w.heap.size + 1, 4, none⟩) hgl).trans f4
                have HB0 := hide hbb0
                have hg0 : w.heap.size + 1 < w0.heap.size := Nat.lt_of_lt_of_le hgl hbb0.size
                clear hb hbb0
                go_wp2
                go_region_with (go_at_call 86; refine (unhide C _).mono ?_; rintro e w' ⟨rfl, hb⟩; have hbb : Below w0.heap.size w0 w' := ⟨hb.os, hb.tape, hb.output, hb.size, hb.block⟩; have a2 := (hbb.cell (p := ⟨w.heap.size + 1, 2, none⟩) hg0).trans e2; have a4 := (hbb.cell (p := ⟨w.heap.size + 1, 4, none⟩) hg0).trans e4; have a5 := (hbb.frozen (p := ⟨w.heap.size + 1, 2, none⟩) hg0).trans e5; have a6 := (hbb.frozen (p := ⟨w.heap.size + 1, 4, none⟩) hg0).trans e6; have HF := hide (unhide hfin w' ((unhide HB0).trans (hbb.mono (unhide HB0).size))); clear hb hbb)
                all_goals
                  cases d
                  all_goals
                    go_wp2
                    go_roundw
                    case rel => exact ⟨i + 1, n, _, by go_num, by omega, by omega, hn8, .inr (unhide HNE), hR2, (unhide HF).1, (unhide HF).2.1, (unhide HF).2.2⟩
                    case measure => simp [intOf]; omega
            · obtain rfl : t = true := unhide hBt (by omega)
              go_wp2_with fail
              all_goals
                refine (unhide C _).mono ?_
                rintro e w0 ⟨rfl, hb⟩
                have hbb0 : Below wr.heap.size wr w0 := ⟨hb.os, hb.tape, hb.output, hb.size, hb.block⟩
                have e2 := (hbb0.cell (p := ⟨w.heap.size + 1, 2, none⟩) hgl).trans c2
                have e4 := (hbb0.cell (p := ⟨w.heap.size + 1, 4, none⟩) hgl).trans c4
                have e5 := (hbb0.frozen (p := ⟨w.heap.size + 1, 2, none⟩) hgl).trans f2
                have e6 := (hbb0.frozen (p := ⟨w.heap.size + 1, 4, none⟩) hgl).trans f4
                have HB0 := hide hbb0
                have hg0 : w.heap.size + 1 < w0.heap.size := Nat.lt_of_lt_of_le hgl hbb0.size
                clear hb hbb0
                go_wp2
                go_region_with (go_at_call 86; refine (unhide C _).mono ?_; rintro e w' ⟨rfl, hb⟩; have hbb : Below w0.heap.size w0 w' := ⟨hb.os, hb.tape, hb.output, hb.size, hb.block⟩; have a2 := (hbb.cell (p := ⟨w.heap.size + 1, 2, none⟩) hg0).trans e2; have a4 := (hbb.cell (p := ⟨w.heap.size + 1, 4, none⟩) hg0).trans e4; have a5 := (hbb.frozen (p := ⟨w.heap.size + 1, 2, none⟩) hg0).trans e5; have a6 := (hbb.frozen (p := ⟨w.heap.size + 1, 4, none⟩) hg0).trans e6; have HF := hide (unhide hfin w' ((unhide HB0).trans (hbb.mono (unhide HB0).size))); clear hb hbb)
                all_goals
                  cases d
                  all_goals
                    go_wp2
                    go_roundw
                    case rel => exact ⟨i + 1, n, _, by go_num, by omega, by omega, hn8, .inr (unhide HNE), hR2, (unhide HF).1, (unhide HF).2.1, (unhide HF).2.2⟩
                    case measure => simp [intOf]; omega
          · have hAct : Hid (Act (bs s) who i ⟨who, c, (b : Int), 0, d⟩) := ⟨hi1, by rw [bs_len]; exact hi, unhide hR, fun c' hc' _ => by
              rw [unhide hbi] at hc'
              cases hc'
              exact add_end who c b d _ (fun h => htake (.inl h)) (fun h => htake (.inr h)) (by rcases unhide hE with h | h; exact .inl (unhide HR1 h); exact .inr h)⟩
            have hB0 : ¬ 0 < bitZ (r.toNat : Int) := fun h => htake (.inl h)
            have h88 : ((r.toNat : Int) == 88) = false := by rw [beq_eq_false_iff_ne]; exact fun h => htake (.inr h)
            have C : Hid (∀ W, Calls Tryz.prog 86 #[.int .u8 (r.toNat : Int)] W fun e w' => e = .returned (.int .i64 (bitZ (r.toNat : Int))) ∧ w' = W) := fun W => rbit_any _ W
            generalize bitZ (r.toNat : Int) = B at *
            clear htake hE hR hbi HR1
            go_wp2_with fail
            all_goals
              refine (unhide C _).mono ?_
              rintro e w' ⟨rfl, rfl⟩
              have p0 := (unhide hX).c0
              have p1 := (unhide hX).c1
              have p2 := (unhide hX).c2
              have p3 := (unhide hX).c3
              have p4 := (unhide hX).c4
              have z0 := (unhide hZ).c0
              have z1 := (unhide hZ).c1
              have z2 := (unhide hZ).c2
              have z3 := (unhide hZ).c3
              have z4 := (unhide hZ).c4
              have f0 := (unhide hZ).frozenAt 0
              have f1 := (unhide hZ).frozenAt 1
              have f2 := (unhide hZ).frozenAt 2
              have f3 := (unhide hZ).frozenAt 3
              have f4 := (unhide hZ).frozenAt 4
              have HS := hide (one_store ⟨who, c, (b : Int), 0, d⟩ (unhide hZ))
              simp only at p0 p1 p2 p3 p4 z0 z1 z2 z3 z4 HS
              have hBW := hB
              clear hX hZ hB
              go_wp2
              obtain ⟨Wf, hWf⟩ : ∃ W, W = (((((w'.setCell ⟨w.heap.size, 0, none⟩ (.int .i64 who)).setCell ⟨w.heap.size, 1, none⟩ (.int .u8 (c.toNat : Int))).setCell ⟨w.heap.size, 2, none⟩ (.int .i64 (b : Int))).setCell ⟨w.heap.size, 3, none⟩ (.int .u8 0)).setCell ⟨w.heap.size, 4, none⟩ (.bool d)) := ⟨_, rfl⟩
              have HO : Hid (One Wf w.heap.size ⟨who, c, (b : Int), 0, d⟩) := by rw [hWf]; exact unhide HS
              have HBf : Hid (Below w.heap.size w Wf) := by rw [hWf]; exact (((((unhide hBW).setCell (Nat.le_refl _) _).setCell (Nat.le_refl _) _).setCell (Nat.le_refl _) _).setCell (Nat.le_refl _) _).setCell (Nat.le_refl _) _
              have g0 := (unhide HO).c0
              have g1 := (unhide HO).c1
              have g2 := (unhide HO).c2
              have g3 := (unhide HO).c3
              have g4 := (unhide HO).c4
              simp only at g0 g1 g2 g3 g4
              rw [← hWf]
              exact bodyPost_ret (v := .tuple #[.agg (cc ⟨who, c, (b : Int), 0, d⟩).toArray, .int .i64 ((i : Nat) : Int)]) (by simp [results, Tryz.results58, go_sem, cc, g0, g1, g2, g3, g4]) rfl (.inr ⟨i, _, unhide hAct, rfl, unhide HBf⟩)
        · have hAct : Hid (Act (bs s) who i ⟨who, c, (b : Int), 0, d⟩) := ⟨hi1, by rw [bs_len]; exact hi, unhide hR, fun c' hc' _ => by
            have := (List.getElem?_eq_some_iff.1 hc').1
            rw [bs_len] at this
            omega⟩
          have hlt' : ¬ (i : Int) < (s.size : Int) := by omega
          clear hE hR
          have p0 := (unhide hX).c0
          have p1 := (unhide hX).c1
          have p2 := (unhide hX).c2
          have p3 := (unhide hX).c3
          have p4 := (unhide hX).c4
          have z0 := (unhide hZ).c0
          have z1 := (unhide hZ).c1
          have z2 := (unhide hZ).c2
          have z3 := (unhide hZ).c3
          have z4 := (unhide hZ).c4
          have f0 := (unhide hZ).frozenAt 0
          have f1 := (unhide hZ).frozenAt 1
          have f2 := (unhide hZ).frozenAt 2
          have f3 := (unhide hZ).frozenAt 3
          have f4 := (unhide hZ).frozenAt 4
          have HS := hide (one_store ⟨who, c, (b : Int), 0, d⟩ (unhide hZ))
          simp only at p0 p1 p2 p3 p4 z0 z1 z2 z3 z4 HS
          have hBW := hB
          clear hX hZ hB
          go_wp2
          obtain ⟨Wf, hWf⟩ : ∃ W, W = (((((wr.setCell ⟨w.heap.size, 0, none⟩ (.int .i64 who)).setCell ⟨w.heap.size, 1, none⟩ (.int .u8 (c.toNat : Int))).setCell ⟨w.heap.size, 2, none⟩ (.int .i64 (b : Int))).setCell ⟨w.heap.size, 3, none⟩ (.int .u8 0)).setCell ⟨w.heap.size, 4, none⟩ (.bool d)) := ⟨_, rfl⟩
          have HO : Hid (One Wf w.heap.size ⟨who, c, (b : Int), 0, d⟩) := by rw [hWf]; exact unhide HS
          have HBf : Hid (Below w.heap.size w Wf) := by rw [hWf]; exact (((((unhide hBW).setCell (Nat.le_refl _) _).setCell (Nat.le_refl _) _).setCell (Nat.le_refl _) _).setCell (Nat.le_refl _) _).setCell (Nat.le_refl _) _
          have g0 := (unhide HO).c0
          have g1 := (unhide HO).c1
          have g2 := (unhide HO).c2
          have g3 := (unhide HO).c3
          have g4 := (unhide HO).c4
          simp only at g0 g1 g2 g3 g4
          rw [← hWf]
          exact bodyPost_ret (v := .tuple #[.agg (cc ⟨who, c, (b : Int), 0, d⟩).toArray, .int .i64 ((i : Nat) : Int)]) (by simp [results, Tryz.results58, go_sem, cc, g0, g1, g2, g3, g4]) rfl (.inr ⟨i, _, unhide hAct, rfl, unhide HBf⟩)
theorem action_any (s : ByteArray) (who : Int) (w : World) (h0 : 0 < s.size) (hs : s.size ≤ 4096) :
    Calls Tryz.prog 58 #[.string s, .int .i64 who] w (AcR w (bs s) who) := by
  cases ho : isOp (s[0].toNat : Int) with
  | false => exact action_no s who w h0 hs ho
  | true =>
    by_cases h : ∃ h : 1 < s.size, (s[1].toNat : Int) = 117 ∨ (s[1].toNat : Int) = 103 ∨ (s[1].toNat : Int) = 111
    · exact action_copy s who w h.1 hs ho h.2
    · exact action_loop s who w h0 hs ho (fun h1 => ⟨fun e => h ⟨h1, .inl e⟩, fun e => h ⟨h1, .inr (.inl e)⟩, fun e => h ⟨h1, .inr (.inr e)⟩⟩)
end Go.Proofs.YtijknodbaddelaaGreatDoor.Mo
