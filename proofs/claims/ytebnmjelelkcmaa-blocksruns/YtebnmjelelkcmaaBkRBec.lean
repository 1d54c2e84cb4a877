/- What becomes of a block, as the document has it. -/
import Derived.Test.YtebnmjelelkcmaaBkRMk
import Derived.Test.YtebnmjelelkcmaaBkRCheck
import Derived.Deep.DeepCutAuto
import Derived.Deep.CutBlock
set_option linter.unusedVariables false
namespace Go.Proofs.Ytebnmjelelkcmaa.Bk
open Go.RowKit Go.Shelf Cu

theorem rl_cells {W : World} {b : Nat} {t : TypeId} {i o sk ct se : Int} {kp sw up lo sy : Bool} (h : W.heap[b]? = some (.cells #[.int .i64 i, .int .i64 o, .int .i64 sk, .int .i64 ct, .int .i64 se, .bool kp, .bool sw, .bool up, .bool lo, .bool sy] t (0, 0))) :
    W.cell? ⟨b, 0, none⟩ = some (.int .i64 i) ∧ W.cell? ⟨b, 1, none⟩ = some (.int .i64 o) ∧ W.cell? ⟨b, 2, none⟩ = some (.int .i64 sk) ∧ W.cell? ⟨b, 3, none⟩ = some (.int .i64 ct) ∧ W.cell? ⟨b, 4, none⟩ = some (.int .i64 se) ∧
    W.cell? ⟨b, 5, none⟩ = some (.bool kp) ∧ W.cell? ⟨b, 6, none⟩ = some (.bool sw) ∧ W.cell? ⟨b, 7, none⟩ = some (.bool up) ∧ W.cell? ⟨b, 8, none⟩ = some (.bool lo) ∧ W.cell? ⟨b, 9, none⟩ = some (.bool sy) := by
  refine ⟨?_, ?_, ?_, ?_, ?_, ?_, ?_, ?_, ?_, ?_⟩ <;> (rw [Lib.cell_of_heap h]; rfl)
def upB (up : Bool) (c : UInt8) : UInt8 := if up = true then upC c else c
def letC (up lo : Bool) (c : UInt8) : UInt8 := if lo = true then loC (upB up c) else upB up c
theorem map_upB (up : Bool) (l : Bs) : l.map (upB up) = if up = true then l.map upC else l := by
  cases up
  · have : upB false = id := by funext c; rfl
    rw [this]; simp
  · have : upB true = upC := by funext c; rfl
    rw [this]; simp
theorem bec_let (p : Pl) (b : Bs) : bec p b = (b2P p (b1P p b)).map (letC p.up p.lo) := by
  unfold bec b4P b3P
  generalize b2P p (b1P p b) = x
  rw [← map_upB]
  cases p.lo
  · have : letC p.up false = upB p.up := by funext c; rfl
    rw [this]; simp
  · have : letC p.up true = loC ∘ upB p.up := by funext c; rfl
    rw [this]; simp
theorem b1_snoc (p : Pl) (l : Bs) (hs : p.sy = true) (h : l.length < p.i.toNat) : b1P p (l ++ [0]) = b1P p l := by
  unfold b1P; rw [if_pos hs, if_pos hs]; exact fill_more _ _ h
theorem b1_done (p : Pl) (l : Bs) (h : (decide (l.length < p.i.toNat) && p.sy) = false) : b1P p l = l := by
  unfold b1P
  cases hs : p.sy
  · rw [if_neg (by simp)]
  · rw [if_pos rfl, fill_full]
    rw [hs] at h
    simp at h
    omega
theorem upC_sub (c : UInt8) (h1 : 97 ≤ (c.toNat : Int)) (h2 : (c.toNat : Int) ≤ 122) : ((upC c).toNat : Int) = (c.toNat : Int) - 32 := by
  rw [upC_yes c h1 h2]; omega
theorem loC_add (c : UInt8) (h1 : 65 ≤ (c.toNat : Int)) (h2 : (c.toNat : Int) ≤ 90) : ((loC c).toNat : Int) = (c.toNat : Int) + 32 := by
  rw [loC_yes c h1 h2]; omega
theorem set_same (l : Bs) (k : Nat) (c : UInt8) (h : k < l.length) (e : l[k] = c) : l.set k c = l := by rw [← e, List.set_getElem_self]
theorem set_let (up lo : Bool) (l : Bs) (k : Nat) (h : k < l.length) : ((mapK (letC up lo) l k).set k (upB up l[k])).set k (letC up lo l[k]) = mapK (letC up lo) l (k + 1) := by
  rw [List.set_set, mapK_set _ _ _ h]
theorem swab_mk {B g n k : Nat} {l : Bs} {wr : World} (hR : Mk wr B (sl g l.length n) (swK l k)) (hk : k % 2 = 0) (hlt : k + 1 < l.length) :
    ∃ a b : UInt8, wr.cell? ⟨g, k, none⟩ = some (.int .u8 (a.toNat : Int)) ∧ wr.cell? ⟨g, k + 1, none⟩ = some (.int .u8 (b.toNat : Int)) ∧ wr.frozen? ⟨g, k, none⟩ = false ∧ wr.frozen? ⟨g, k + 1, none⟩ = false ∧
      Mk ((wr.setCell ⟨g, k, none⟩ (.int .u8 (b.toNat : Int))).setCell ⟨g, k + 1, none⟩ (.int .u8 (a.toNat : Int))) B (sl g l.length n) (swK l (k + 2)) := by
  have hsl := swK_len l k
  have h0 : k < (swK l k).length := by omega
  have h1 : k + 1 < (swK l k).length := by omega
  have a0 : (swK l k)[k] = l[k] := by
    have := swK_at l k k (Nat.le_refl _) (by omega)
    rw [List.getElem?_eq_getElem h0, List.getElem?_eq_getElem (by omega)] at this
    exact Option.some.inj this
  have a1 : (swK l k)[k + 1] = l[k + 1] := by
    have := swK_at l k (k + 1) (by omega) hlt
    rw [List.getElem?_eq_getElem h1, List.getElem?_eq_getElem hlt] at this
    exact Option.some.inj this
  refine ⟨l[k], l[k + 1], by rw [(hR.at k h0).1, a0], by rw [(hR.at (k + 1) h1).1, a1], (hR.at k h0).2, (hR.at (k + 1) h1).2, ?_⟩
  have := (hR.set k l[k + 1] h0).set (k + 1) l[k] (by rw [List.length_set]; exact h1)
  rw [swK_step l k hk hlt] at this
  exact this

set_option maxRecDepth 100000 in
set_option maxHeartbeats 1000000 in
theorem became_any (p : Pl) (s : ByteArray) (w : World) (h1 : 1 ≤ p.i) (h2 : p.i ≤ 65536) (hs : s.size ≤ p.i.toNat) :
    Calls Try.prog 19 #[.agg (plC p), .string s] w fun e w' => ∃ v, e = .returned v ∧ Mk w' w.heap.size v (bec p (bs s)) ∧ Below w.heap.size w w' := by
  have HBL := hide (bec_let p (bs s))
  have HS := hide (b1_snoc p)
  have HD := hide (b1_done p)
  obtain ⟨i, o, sk, ct, se, kp, sw, up, lo, sy⟩ := p
  simp only at h1 h2 hs
  obtain ⟨n, rfl⟩ : ∃ n : Nat, i = n := ⟨i.toNat, by omega⟩
  rw [Int.toNat_natCast] at hs
  obtain ⟨p, hp⟩ : ∃ p : Pl, p = ⟨n, o, sk, ct, se, kp, sw, up, lo, sy⟩ := ⟨_, rfl⟩
  have HSW : Hid (p.sw = sw ∧ p.up = up ∧ p.lo = lo ∧ p.sy = sy ∧ p.i.toNat = n) := by rw [hp]; exact ⟨rfl, rfl, rfl, rfl, rfl⟩
  rw [← hp] at HBL HS HD ⊢
  rw [hp]
  unfold plC
  simp only
  rw [← hp]
  clear hp
  obtain ⟨O, hO⟩ : ∃ O : Obj, O = .cells #[.int .i64 (n : Int), .int .i64 o, .int .i64 sk, .int .i64 ct, .int .i64 se, .bool kp, .bool sw, .bool up, .bool lo, .bool sy] 25 := ⟨_, rfl⟩
  have HO := hide hO
  obtain ⟨cp, o5, hcv, hM5⟩ := Mk.conv s (w.alloc O)
  have hsz5 : (w.alloc O).heap.size = w.heap.size + 1 := by simp
  rw [hsz5] at hcv hM5
  have HM5 := hide hM5
  have HB5 : Hid (Below (w.heap.size + 1) (w.alloc O) ((w.alloc O).alloc o5).drew) := ((Below.refl _ _).alloc (by simp) _).drew
  obtain ⟨w5, hw5⟩ : ∃ W, W = ((w.alloc O).alloc o5).drew := ⟨_, rfl⟩
  rw [← hw5] at hcv HM5 HB5
  rw [hO] at hcv
  clear hw5 hM5 hsz5 hO
  go_enter Try.func19, Try.ntmps19
  go_wp2_with fail
  have hcells : ∀ W, Below (w.heap.size + 1) (w.alloc O) W → W.heap[w.heap.size]? = some (.cells #[.int .i64 (n : Int), .int .i64 o, .int .i64 sk, .int .i64 ct, .int .i64 se, .bool kp, .bool sw, .bool up, .bool lo, .bool sy] 25 (0, 0)) := fun W hb => by
    rw [hb.block _ (by omega), heap_alloc_new, unhide HO]
  have HC := hide hcells
  clear hcells hcv
  go_loopw [5] (fun v wr => ∃ (l : Bs) (g c : Nat), v = sl g l.length c ∧ l.length ≤ n ∧ Hid (Mk wr (w.heap.size + 1) (sl g l.length c) l) ∧ Hid (Below (w.heap.size + 1) (w.alloc O) wr) ∧ Hid (b1P p l = b1P p (bs s))) (fun v _ => n - slLen v)
  case atStart => exact ⟨bs s, _, _, by rw [bs_len], by rw [bs_len]; exact hs, by rw [bs_len]; exact HM5, HB5, rfl⟩
  case round =>
    clear HM5 HB5
    obtain ⟨l, g, c, rfl, hl, hM, hB, hE⟩ := hrel
    obtain ⟨q, hq⟩ : ∃ q : Bool, q = (decide (l.length < n) && sy) := ⟨_, rfl⟩
    have Hq := hide hq
    go_upto_region 2 with fail
    go_cut [19] (fun v wx => wr = wx ∧ v = .bool q)
    case first =>
      obtain ⟨c0, _, _, _, _, _, _, _, _, c9⟩ := rl_cells (unhide HC _ (unhide hB))
      by_cases hlt : l.length < n
      · have hlt' : (l.length : Int) < (n : Int) := by omega
        cases sy
        all_goals
          go_wp2_with fail
          go_meet
          exact ⟨rfl, by rw [unhide Hq]; simp [hlt]⟩
      · have hlt' : ¬ (l.length : Int) < (n : Int) := by omega
        go_wp2_with fail
        go_meet
        exact ⟨rfl, by rw [unhide Hq]; simp [hlt]⟩
    case rest =>
      obtain ⟨rfl, rfl⟩ := hcut
      have hgl : g < wr.heap.size := ((unhide hM).lt g rfl).2
      have hwl : w.heap.size + 1 ≤ g := ((unhide hM).lt g rfl).1
      cases q
      case true =>
        have hb := unhide Hq
        have hlt : l.length < n := by
          have := hb.symm
          simp at this
          exact this.1
        have hsy : Hid (p.sy = true) := by
          have := hb.symm
          simp at this
          exact (unhide HSW).2.2.2.1.trans this.2
        clear hb hq Hq
        go_wp2_with (at_builtin; refine wpList_append_mk rfl _ _ rfl (w.heap.size + 1) _ l rfl ((unhide hM).alloc _) ⟨wr.heap.size, 0, none⟩ 1 1 [0] rfl rfl (byte_new _ _ _) (by omega) (by simp; omega) ?_; intro v9 w9 hM9 hg9)
        obtain ⟨g9, c9, hv9⟩ := hM9.isSl
        subst hv9
        have HM9 := hide hM9
        have HB9 : Hid (Below (w.heap.size + 1) (w.alloc O) w9) := ((unhide hB).alloc (by omega) _).trans (((unhide hM).alloc _).below hg9 (by simp; omega))
        have HE9 : Hid (b1P p (l ++ [0]) = b1P p (bs s)) := (unhide HS l (unhide hsy) (by rw [(unhide HSW).2.2.2.2]; exact hlt)).trans (unhide hE)
        clear hM9 hg9
        go_wp2_with fail
        go_roundw
        case rel => exact ⟨l ++ [0], g9, c9, rfl, by rw [List.length_append]; simp; omega, HM9, HB9, HE9⟩
        case measure => simp [slLen]; omega
      case false =>
        have hfin : Hid (l = b1P p (bs s)) := by
          have := unhide HD l (by rw [(unhide HSW).2.2.2.2, (unhide HSW).2.2.2.1]; exact (unhide Hq).symm)
          exact this.symm.trans (unhide hE)
        clear hE Hq hq HS HD
        have HW0 : Hid (Mk wr (w.heap.size + 1) (sl g l.length c) (swK l 0)) := by
          have : swK l 0 = l := by simp [swK, swabP]
          rw [this]; exact hM
        have hc9 := hide hB
        go_wp2_with fail
        go_loopw [6] (fun v wx => ∃ k : Nat, v = .int .i64 k ∧ k ≤ l.length + 1 ∧ Hid (k % 2 = 0) ∧ Hid (sw = false → k = 0) ∧ Hid (Mk wx (w.heap.size + 1) (sl g l.length c) (swK l k)) ∧ Hid (Below (w.heap.size + 1) (w.alloc O) wx)) (fun v _ => l.length + 2 - (intOf v).toNat)
        case atStart => exact ⟨0, rfl, Nat.zero_le _, rfl, fun _ => rfl, HW0, hB⟩
        case round =>
          clear HW0 hM hB hc9 hgl
          obtain ⟨k, rfl, hk, hk2, hks, hM, hB⟩ := hrel
          obtain ⟨q, hq⟩ : ∃ q : Bool, q = (decide (k + 1 < l.length) && sw) := ⟨_, rfl⟩
          have Hq := hide hq
          clear hq
          go_upto_region 5 with fail
          go_cut [31] (fun v wx => wr = wx ∧ v = .bool q)
          case first =>
            obtain ⟨_, _, _, _, _, _, c6, _, _, _⟩ := rl_cells (unhide HC _ (unhide hB))
            by_cases hlt : k + 1 < l.length
            · have hlt' : (k : Int) + 1 < (l.length : Int) := by omega
              cases sw
              all_goals
                go_wp2_with fail
                go_meet
                exact ⟨rfl, by rw [unhide Hq]; simp [hlt]⟩
            · have hlt' : ¬ (k : Int) + 1 < (l.length : Int) := by omega
              go_wp2_with fail
              go_meet
              exact ⟨rfl, by rw [unhide Hq]; simp [hlt]⟩
          case rest =>
            obtain ⟨rfl, rfl⟩ := hcut
            have hgl : g < wr.heap.size := ((unhide hM).lt g rfl).2
            cases q
            case true =>
              have hb := unhide Hq
              have hlt : k + 1 < l.length := by
                have := hb.symm
                simp at this
                exact this.1
              have hsw : Hid (sw = true) := by
                have := hb.symm
                simp at this
                exact this.2
              obtain ⟨a, b, e0, e1, f0, f1, hM2⟩ := swab_mk (unhide hM) (unhide hk2) hlt
              have HM2 := hide hM2
              have HB2 : Hid (Below (w.heap.size + 1) (w.alloc O) ((wr.setCell ⟨g, k, none⟩ (.int .u8 (b.toNat : Int))).setCell ⟨g, k + 1, none⟩ (.int .u8 (a.toNat : Int)))) := ((unhide hB).setCell (p := ⟨g, k, none⟩) hwl _).setCell (p := ⟨g, k + 1, none⟩) hwl _
              have x0 : (k : Int) < (l.length : Int) := by omega
              have x1 : (k : Int) + 1 < (l.length : Int) := by omega
              have x2 : 0 ≤ (k : Int) + 1 := by omega
              have x3 : ((k : Int) + 1).toNat = k + 1 := by omega
              clear hb Hq hM2
              go_wp2_with fail
              go_roundw
              case rel => exact ⟨k + 2, by go_num, by omega, by have := unhide hk2; show (k + 2) % 2 = 0; omega, fun e => absurd (e.symm.trans (unhide hsw)) (by simp), HM2, HB2⟩
              case measure => simp [intOf]; omega
            case false =>
              have hsw : Hid (swK l k = b2P p l) := by
                have hb := (unhide Hq).symm
                unfold b2P Hid
                rw [(unhide HSW).1]
                cases sw
                · have := unhide hks rfl
                  subst this
                  rw [if_neg (by simp)]
                  simp [swK, swabP]
                · rw [if_pos rfl]
                  simp at hb
                  rcases swK_end l k (by omega) with h | h
                  · exact h
                  · have := unhide hk2; omega
              clear hk2 hks Hq hk
              rw [unhide hsw] at hM
              have hlen : Hid (l.length = (b2P p l).length) := (b2_len p l).symm
              have HF : Hid ((b2P p l).map (letC up lo) = bec p (bs s)) := by
                rw [unhide HBL, ← unhide hfin, (unhide HSW).2.1, (unhide HSW).2.2.1]
                exact rfl
              rw [unhide hlen] at hM
              have hsl : sl g l.length c = sl g (b2P p l).length c := by rw [b2_len]
              generalize hL : b2P p l = L at *
              have hlL : l.length = L.length := unhide hlen
              have HM0 : Hid (Mk wr (w.heap.size + 1) (sl g L.length c) (mapK (letC up lo) L 0)) := by
                have : mapK (letC up lo) L 0 = L := by simp [mapK]
                rw [this]; exact hM
              have hLn : L.length ≤ n := by omega
              clear hsw hfin HBL hM hlen hL hsl hl
              rw [hlL]
              clear hlL
              go_wp2_with fail
              go_loopw [8] (fun v wx => ∃ k : Nat, v = .int .i64 k ∧ k ≤ L.length ∧ Hid (Mk wx (w.heap.size + 1) (sl g L.length c) (mapK (letC up lo) L k)) ∧ Hid (Below (w.heap.size + 1) (w.alloc O) wx)) (fun v _ => L.length - (intOf v).toNat)
              case atStart => exact ⟨0, rfl, Nat.zero_le _, HM0, hB⟩
              case round =>
                clear HM0 hB hgl
                obtain ⟨k, rfl, hk, hM, hB⟩ := hrel
                by_cases hlt : k < L.length
                · have hlt' : (k : Int) < (L.length : Int) := by omega
                  have hgl : g < wr.heap.size := ((unhide hM).lt g rfl).2
                  obtain ⟨ch, hch⟩ : ∃ ch, ch = L[k] := ⟨_, rfl⟩
                  have hkm : k < (mapK (letC up lo) L k).length := by rw [mapK_len]; exact hlt
                  obtain ⟨e0, f0⟩ := (unhide hM).at k hkm
                  rw [mapK_at _ _ _ hlt, ← hch] at e0
                  have hc8 : (ch.toNat : Int) < 256 := by have := ch.toNat_lt; omega
                  have HL := hide (set_let up lo L k hlt)
                  have HSE := hide (set_same (mapK (letC up lo) L k) k ch hkm ((mapK_at _ _ _ hlt).trans hch.symm))
                  rw [← hch] at HL
                  clear hch
                  have Hkm := hide hkm
                  clear hkm
                  go_upto_region 13 with fail
                  obtain ⟨q, hq⟩ : ∃ q : Bool, q = (up && (decide (97 ≤ (ch.toNat : Int)) && decide ((ch.toNat : Int) ≤ 122))) := ⟨_, rfl⟩
                  have Hq := hide hq
                  clear hq
                  go_cut [72] (fun v wx => wr = wx ∧ v = .bool q)
                  case first =>
                    obtain ⟨_, _, _, _, _, _, _, c7, _, _⟩ := rl_cells (unhide HC _ (unhide hB))
                    cases up
                    · go_wp2_with fail
                      go_meet
                      exact ⟨rfl, by rw [unhide Hq]; simp⟩
                    · by_cases y1 : 97 ≤ (ch.toNat : Int)
                      · by_cases y2 : (ch.toNat : Int) ≤ 122
                        · go_wp2_with fail
                          go_meet
                          exact ⟨rfl, by rw [unhide Hq]; simp [y1, y2]⟩
                        · go_wp2_with fail
                          go_meet
                          exact ⟨rfl, by rw [unhide Hq, decide_eq_false (by omega : ¬ (ch.toNat : Int) ≤ 122)]; simp⟩
                      · go_wp2_with fail
                        go_meet
                        exact ⟨rfl, by rw [unhide Hq, decide_eq_false (by omega : ¬ 97 ≤ (ch.toNat : Int))]; simp⟩
                  case rest =>
                    obtain ⟨rfl, rfl⟩ := hcut
                    go_upto_if 72 with fail
                    go_cut [8] (fun v wx => v = .int .i64 k ∧ Hid (Mk wx (w.heap.size + 1) (sl g L.length c) ((mapK (letC up lo) L k).set k (upB up ch))) ∧ Hid (Below (w.heap.size + 1) (w.alloc O) wx))
                    case first =>
                      cases q
                      · have hu : upB up ch = ch := by
                          have := (unhide Hq).symm
                          unfold upB
                          cases up
                          · rfl
                          · simp only [Bool.true_and] at this
                            rw [if_pos rfl, upC_no]
                            rintro ⟨z1, z2⟩
                            rw [decide_eq_true z1, decide_eq_true z2] at this
                            simp at this
                        have HM1 : Hid (Mk wr (w.heap.size + 1) (sl g L.length c) ((mapK (letC up lo) L k).set k (upB up ch))) := by
                          rw [hu, unhide HSE]; exact hM
                        clear hu Hq
                        go_wp2_with fail
                        go_meet
                        exact ⟨rfl, HM1, hB⟩
                      · have hb := (unhide Hq).symm
                        simp only [Bool.and_eq_true, decide_eq_true_eq] at hb
                        obtain ⟨z0, z1, z2⟩ := hb
                        have HM1 := hide ((unhide hM).set k (upB up ch) (unhide Hkm))
                        have HB1 := hide ((unhide hB).setCell (p := ⟨g, k, none⟩) hwl (.int .u8 ((upB up ch).toNat : Int)))
                        have hu : ((upB up ch).toNat : Int) = (ch.toNat : Int) - 32 := by unfold upB; rw [if_pos z0]; exact upC_sub ch z1 z2
                        rw [hu] at HM1 HB1
                        clear hu Hq z0
                        go_wp2_with fail
                        go_meet
                        exact ⟨rfl, HM1, HB1⟩
                    case rest =>
                      obtain ⟨rfl, hM1, hB1⟩ := hcut
                      clear hM hB e0 f0 Hq HSE q hgl
                      obtain ⟨c1, hc1⟩ : ∃ c1, c1 = upB up ch := ⟨_, rfl⟩
                      have hk1 : k < ((mapK (letC up lo) L k).set k (upB up ch)).length := by rw [List.length_set]; exact unhide Hkm
                      have hgl := ((unhide hM1).lt g rfl).2
                      obtain ⟨e0, f0⟩ := (unhide hM1).at k hk1
                      rw [List.getElem_set_self, ← hc1] at e0
                      have hc8' : (c1.toNat : Int) < 256 := by have := c1.toNat_lt; omega
                      have HLC : Hid (letC up lo ch = if lo = true then loC c1 else c1) := by rw [hc1]; exact rfl
                      have HSE := hide (set_same _ k c1 hk1 ((List.getElem_set_self ..).trans hc1.symm))
                      have Hk1 := hide hk1
                      clear hc1 hk1 hc8
                      go_upto_region 15 with fail
                      obtain ⟨q, hq⟩ : ∃ q : Bool, q = (lo && (decide (65 ≤ (c1.toNat : Int)) && decide ((c1.toNat : Int) ≤ 90))) := ⟨_, rfl⟩
                      have Hq := hide hq
                      clear hq
                      go_cut [96] (fun v wx => wc = wx ∧ v = .bool q)
                      case first =>
                        obtain ⟨_, _, _, _, _, _, _, _, c8, _⟩ := rl_cells (unhide HC _ (unhide hB1))
                        cases lo
                        · go_wp2_with fail
                          go_meet
                          exact ⟨rfl, by rw [unhide Hq]; simp⟩
                        · by_cases y1 : 65 ≤ (c1.toNat : Int)
                          · by_cases y2 : (c1.toNat : Int) ≤ 90
                            · go_wp2_with fail
                              go_meet
                              exact ⟨rfl, by rw [unhide Hq]; simp [y1, y2]⟩
                            · go_wp2_with fail
                              go_meet
                              exact ⟨rfl, by rw [unhide Hq, decide_eq_false (by omega : ¬ (c1.toNat : Int) ≤ 90)]; simp⟩
                          · go_wp2_with fail
                            go_meet
                            exact ⟨rfl, by rw [unhide Hq, decide_eq_false (by omega : ¬ 65 ≤ (c1.toNat : Int))]; simp⟩
                      case rest =>
                        obtain ⟨rfl, rfl⟩ := hcut
                        cases q
                        · have hu : letC up lo ch = c1 := by
                            have := (unhide Hq).symm
                            rw [unhide HLC]
                            cases lo
                            · rfl
                            · simp only [Bool.true_and] at this
                              rw [if_pos rfl, loC_no]
                              rintro ⟨z1, z2⟩
                              rw [decide_eq_true z1, decide_eq_true z2] at this
                              simp at this
                          have HM2 : Hid (Mk wc (w.heap.size + 1) (sl g L.length c) (mapK (letC up lo) L (k + 1))) := by
                            rw [← unhide HL, hu, unhide HSE]; exact hM1
                          clear hu Hq
                          go_wp2_with fail
                          go_roundw
                          case rel => exact ⟨k + 1, by go_num, by omega, HM2, hB1⟩
                          case measure => simp [intOf]; omega
                        · have hb := (unhide Hq).symm
                          simp only [Bool.and_eq_true, decide_eq_true_eq] at hb
                          obtain ⟨z0, z1, z2⟩ := hb
                          have HM2 := hide ((unhide hM1).set k (letC up lo ch) (unhide Hk1))
                          rw [unhide HL] at HM2
                          have HB2 := hide ((unhide hB1).setCell (p := ⟨g, k, none⟩) hwl (.int .u8 ((letC up lo ch).toNat : Int)))
                          have hu : ((letC up lo ch).toNat : Int) = (c1.toNat : Int) + 32 := by rw [unhide HLC, if_pos z0]; exact loC_add c1 z1 z2
                          rw [hu] at HM2 HB2
                          clear hu Hq z0
                          go_wp2_with fail
                          go_roundw
                          case rel => exact ⟨k + 1, by go_num, by omega, HM2, HB2⟩
                          case measure => simp [intOf]; omega
                · have hlt' : ¬ (k : Int) < (L.length : Int) := by omega
                  have hfin2 := hide (mapK_end (letC up lo) L k (by omega))
                  go_wp2_with fail
                  go_ret
                  refine ⟨_, rfl, ?_, ?_⟩
                  · rw [← unhide HF, ← unhide hfin2]
                    exact (unhide hM).base (by omega)
                  · exact ((Below.refl _ w).alloc (Nat.le_refl _) _).trans ((unhide hB).mono (by omega))
end Go.Proofs.Ytebnmjelelkcmaa.Bk
