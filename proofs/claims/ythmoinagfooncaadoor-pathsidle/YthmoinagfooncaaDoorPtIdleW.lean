/- PathsIdle walked. -/
import Derived.Test.YthmoinagfooncaaDoorPtIdleP
import Derived.Test.YthmoinagfooncaaDoorPtLives
import Derived.Test.YthmoinagfooncaaDoorPtGreat
import Derived.Test.YthmoinagfooncaaDoorPtRStr
namespace Go.Proofs.YthmoinagfooncaaDoor.Pt
open Go.RowKit Go.Proofs.YthmoinagfooncaaDoor.Cu Go.Proofs.YthmoinagfooncaaDoor.Tr Go.Proofs.YthmoinagfooncaaDoor.Pm

abbrev la (a : Option Addr) (n cap : Nat) (now : Int) (u g mk dr : Int) (s : ByteArray) (fo : Bool) : Array Value := #[.slice a n cap, .int .i64 now, .int .i64 u, .int .i64 g, .int .i64 mk, .int .i64 dr, .string s, .bool fo]
structure Lk (w W : World) (c : Array Value) : Prop where
  below : Below w.heap.size w W
  box : W.heap[w.heap.size]? = some (.cells c 48)
theorem Lk.step {w W W' : World} {c : Array Value} (h : Lk w W c) (hb : Below W.heap.size W W') : Lk w W' c := ⟨h.below.trans (hb.mono h.below.size), keep1 h.box hb⟩
theorem Lk.set {w W : World} {a : Option Addr} {n cap : Nat} {now u g mk dr : Int} {s : ByteArray} {fo : Bool} (h : Lk w W (la a n cap now u g mk dr s fo)) : Lk w (W.setCell ⟨w.heap.size, 2, none⟩ (.int .i64 0)) (la a n cap now 0 g mk dr s fo) :=
  ⟨h.below.setCell (p := ⟨w.heap.size, 2, none⟩) (Nat.le_refl _) _, heap_setCell_same W w.heap.size 2 _ _ _ h.box⟩
theorem Lk.cells {w W : World} {c0 c1 c2 c3 c4 c5 c6 c7 : Value} (h : Lk w W #[c0, c1, c2, c3, c4, c5, c6, c7]) : W.cell? ⟨w.heap.size, 0, none⟩ = some c0 ∧ W.cell? ⟨w.heap.size, 1, none⟩ = some c1 ∧ W.cell? ⟨w.heap.size, 2, none⟩ = some c2 ∧ W.cell? ⟨w.heap.size, 3, none⟩ = some c3 ∧ W.cell? ⟨w.heap.size, 4, none⟩ = some c4 ∧ W.cell? ⟨w.heap.size, 5, none⟩ = some c5 ∧ W.cell? ⟨w.heap.size, 6, none⟩ = some c6 ∧ W.cell? ⟨w.heap.size, 7, none⟩ = some c7 ∧ W.frozen? ⟨w.heap.size, 2, none⟩ = false ∧ w.heap.size < W.heap.size := by
  refine ⟨?_, ?_, ?_, ?_, ?_, ?_, ?_, ?_, by simp [World.frozen?, h.box], lt1 h.box⟩ <;> (rw [cell_of_row _ _ _ _ _ _ h.box]; rfl)
theorem idle_even {i : Nat} (h : i % 2 = 0) : tx (idle i) ++ ⟨#[46, 47]⟩ = tx (idle (i + 1)) := by
  apply ba_ext
  show (tx (idle i) ++ (⟨#[46, 47]⟩ : ByteArray)).data.toList = _
  rw [bs_tx, ByteArray.data_append, Array.toList_append]
  show bs (tx (idle i)) ++ [46, 47] = idle i ++ (if i % 2 = 0 then [46, 47] else [47])
  rw [bs_tx, if_pos h]
theorem idle_odd {i : Nat} (h : ¬ i % 2 = 0) : tx (idle i) ++ ⟨#[47]⟩ = tx (idle (i + 1)) := by
  apply ba_ext
  show (tx (idle i) ++ (⟨#[47]⟩ : ByteArray)).data.toList = _
  rw [bs_tx, ByteArray.data_append, Array.toList_append]
  show bs (tx (idle i)) ++ [47] = idle i ++ (if i % 2 = 0 then [46, 47] else [47])
  rw [bs_tx, if_neg h]
theorem idle_first (k : Nat) (h : 0 < (tx (idle k)).size) : ((tx (idle k))[0].toNat : Int) = 46 := by
  have e := Lib.data_getElem? (tx (idle k)) 0 h
  have e2 : (bs (tx (idle k))).head? = some (tx (idle k))[0] := by rw [List.head?_eq_getElem?]; exact e
  rw [bs_tx] at e2
  rcases idle_head k with h1 | h1
  · rw [h1] at e2; cases e2
  · rw [h1] at e2
    rw [← Option.some.inj e2]; rfl
set_option maxRecDepth 100000 in
set_option maxHeartbeats 4000000 in
theorem idle_law (a : Option Addr) (n cap : Nat) (ns : List Nd) (now : Int) (ev : Ev) (s : ByteArray) (fo : Bool) (mn : Nat) (w : World) (h : Ng w a n cap ns) (hn : n ≤ 281474976710656) (hr : ∀ i, i < n → Rb (nd ns i)) (hmn : mn < 256) (hss : s.size ≤ 140737488355328) :
    Calls Tryd.prog 5 #[.agg (la a n cap now ev.user ev.group ev.mask ev.dir s fo), .int .u8 mn] w fun e w' => e = .returned (.bool true) ∧ Below w.heap.size w w' := by
  obtain ⟨u, g, mk, dr⟩ := ev
  simp only
  have HG : Hid (∀ W, Below w.heap.size w W → Calls Tryd.prog 14 #[.agg #[.slice a n cap, .int .i64 now], .string s] W fun e w' => (∃ q : Bool, e = .returned (.bool q) ∧ (q = false → nodesTo ns ns.length ≤ 200000 ∧ s.size ≤ 20000)) ∧ Below W.heap.size W w') := fun W hW => pgreat_any a n cap ns now s W (h.below hW) hn hr
  have HL := hide lives_any
  have HN := hide h
  have hN0 : Hid (Lk w (w.alloc (.cells (la a n cap now u g mk dr s fo) 48)) (la a n cap now u g mk dr s fo)) := ⟨below_new w _, heap_alloc_new w _⟩
  clear h hr
  go_enter Tryd.func5, Tryd.ntmps5
  go_wp2_with fail
  refine (unhide HG _ (unhide hN0).below).mono ?_
  rintro e w1 ⟨⟨q, rfl, hq⟩, b1⟩
  have hN1 := hide ((unhide hN0).step b1)
  clear b1 hN0 HG
  cases q with
  | true =>
    clear hq
    go_wp2_with fail
    refine (unhide HL _).mono ?_
    rintro e w9 ⟨rfl, b9⟩
    have hB9 := hide ((unhide hN1).step b9).below
    clear b9 HL hN1
    go_wp2_with fail
    go_ret
    exact ⟨rfl, unhide hB9⟩
  | false =>
    have hsm := sm_of_size (hq rfl).1
    have hs2 := (hq rfl).2
    obtain ⟨c0, c1, c2, c3, c4, c5, c6, c7, f2, hl⟩ := (unhide hN1).cells
    have HCk := hide (checkAny now ((unhide HN).below (unhide hN1).below) hsm)
    have HSM := hide hsm
    clear hq hsm
    go_wp2_with fail
    refine (unhide HCk).mono ?_
    rintro e w2 ⟨rfl, b2⟩
    have hN2 := hide ((unhide hN1).step b2)
    clear b2 HCk c0 c1 c2 c3 c4 c5 c6 c7 f2 hl hN1
    cases hck : checkP now ns with
    | false =>
      go_wp2_with fail
      refine (unhide HL _).mono ?_
      rintro e w9 ⟨rfl, b9⟩
      have hB9 := hide ((unhide hN2).step b9).below
      clear b9 HL hN2
      go_wp2_with fail
      go_ret
      exact ⟨rfl, unhide hB9⟩
    | true =>
      clear hck
      obtain ⟨c0, c1, c2, c3, c4, c5, c6, c7, f2, hl⟩ := (unhide hN2).cells
      by_cases h0 : bs s = []
      · have hq := (s_beq s).trans (decide_eq_true h0)
        clear h0
        go_wp2_with fail
        refine (unhide HL _).mono ?_
        rintro e w9 ⟨rfl, b9⟩
        have hB9 := hide ((unhide hN2).step b9).below
        clear b9 HL hN2
        go_wp2_with fail
        go_ret
        exact ⟨rfl, unhide hB9⟩
      have hq := (s_beq s).trans (decide_eq_false h0)
      have hp : 0 < s.size := Nat.pos_of_ne_zero fun e => h0 (none_of e)
      have hf := first_is s hp
      clear h0
      by_cases h47 : (bs s).head? = some 47
      · rw [decide_eq_true h47] at hf
        have hf2 : (s[0].toNat : Int) = 47 := by simpa using hf
        clear h47
        go_wp2_with fail
        refine (unhide HL _).mono ?_
        rintro e w9 ⟨rfl, b9⟩
        have hB9 := hide ((unhide hN2).step b9).below
        clear b9 HL hN2
        go_wp2_with fail
        go_ret
        exact ⟨rfl, unhide hB9⟩
      rw [decide_eq_false h47] at hf
      have hf2 : ¬ (s[0].toNat : Int) = 47 := by simpa using hf
      have HB : Hid (begins s = false) := decide_eq_false h47
      have HN3 := hide (unhide hN2).set
      obtain ⟨k, hk⟩ : ∃ k, k = mn % 20 := ⟨_, rfl⟩
      have hk20 : k < 20 := by rw [hk]; exact Nat.mod_lt _ (by omega)
      have hkm : (mn : Int) % 20 = (k : Int) := by omega
      clear h47 hk hN2
      go_wp2_with fail
      clear hf hf2 c0 c1 c2 c3 c4 c5 c6 c7 f2 hl hq
      obtain ⟨w3, hw3⟩ : ∃ w3, w3 = w2.setCell ⟨w.heap.size, 2, none⟩ (.int .i64 0) := ⟨_, rfl⟩
      rw [← hw3] at HN3 ⊢
      clear hw3
      go_loopw [5, 6] (fun y x wr => ∃ i : Nat, i ≤ k ∧ x = .int .i64 i ∧ y = .string (tx (idle i)) ∧ wr = w3) (fun _ x _ => k - (intOf x).toNat)
      case atStart => exact ⟨0, Nat.zero_le _, rfl, rfl, rfl⟩
      case round =>
        obtain ⟨i, hi, rfl, rfl, rfl⟩ := hrel
        have hlen := idle_len i
        have hsz : (tx (idle i)).size ≤ 40 := by rw [size_tx]; omega
        have g1 : ¬ 9223372036854775807 < (tx (idle i)).size + 2 := by omega
        have g2 : ¬ 9223372036854775807 < (tx (idle i)).size + 1 := by omega
        have HF := hide (idle_first i)
        have HS : Hid ((idle i).length + s.size ≤ 1024 → findA now ns ⟨0, g, mk, dr⟩ (tx (idle i) ++ s) fo = findA now ns ⟨0, g, mk, dr⟩ s fo) := fun hl => idle_same i (by omega) (unhide HB) hl
        have HZ : Hid ((tx (idle i)).size = (idle i).length) := size_tx _
        by_cases hlt : i < k
        · have hlt' : (i : Int) < (k : Int) := by omega
          by_cases h2 : i % 2 = 0
          · have h2' : (i : Int) % 2 = 0 := by omega
            have HE := hide (idle_even h2)
            generalize tx (idle i) = t at *
            clear h2 hlen
            go_wp2_with fail
            go_roundw
            case rel => exact ⟨i + 1, by omega, by go_num, by rw [unhide HE], trivial⟩
            case measure => simp [intOf]; omega
          · have h2' : (i : Int) % 2 = 1 := by omega
            have h2'' : (((i : Int) % 2) == 0) = false := by rw [h2']; rfl
            have HE := hide (idle_odd h2)
            generalize tx (idle i) = t at *
            clear h2 hlen
            go_wp2_with fail
            go_roundw
            case rel => exact ⟨i + 1, by omega, by go_num, by rw [unhide HE], trivial⟩
            case measure => simp [intOf]; omega
        · obtain rfl : i = k := by omega
          obtain ⟨c0, c1, c2, c3, c4, c5, c6, c7, f2, hl⟩ := (unhide HN3).cells
          rw [← unhide HZ] at HS
          generalize tx (idle i) = t at *
          clear HZ hlen
          have hll : ¬ (i : Int) < (i : Int) := by omega
          have ht0 : Hid (∀ h : 0 < t.size, ((t[0].toNat : Int) == 47) = false) := fun h => by rw [unhide HF h]; rfl
          by_cases hbig : 1024 < t.size + s.size
          · have hbig' : (1024 : Int) < (t.size : Int) + (s.size : Int) := by omega
            by_cases htz : t.size = 0
            · have htz' : ((t.size : Nat) : Int) = 0 := by omega
              go_wp2_with fail
              refine (unhide HL _).mono ?_
              rintro e w9 ⟨rfl, b9⟩
              have hB9 := hide ((unhide HN3).step b9).below
              clear b9 HL HN3
              go_wp2_with fail
              go_ret
              exact ⟨rfl, unhide hB9⟩
            · have hp0 : 0 < t.size := by omega
              have ht1 := unhide ht0 hp0
              go_wp2_with fail
              refine (unhide HL _).mono ?_
              rintro e w9 ⟨rfl, b9⟩
              have hB9 := hide ((unhide HN3).step b9).below
              clear b9 HL HN3
              go_wp2_with fail
              go_ret
              exact ⟨rfl, unhide hB9⟩
          have hbig' : ¬ (1024 : Int) < (t.size : Int) + (s.size : Int) := by omega
          have hS := unhide HS (by omega)
          have HF1 : Hid (∀ W, Below w.heap.size w W → Calls Tryd.prog 17 #[.agg #[.slice a n cap, .int .i64 now], .agg #[.int .i64 0, .int .i64 g, .int .i64 mk, .int .i64 dr], .string s, .bool fo] W fun r w' => r = .returned (.tuple #[.agg (pv (findA now ns ⟨0, g, mk, dr⟩ s fo).1), .int .i64 (findA now ns ⟨0, g, mk, dr⟩ s fo).2]) ∧ Below W.heap.size W w') := fun W hW => findP_any a n cap ns now ⟨0, g, mk, dr⟩ s fo W ((unhide HN).below hW) (unhide HSM) (by omega)
          have HF2 : Hid (∀ W, Below w.heap.size w W → Calls Tryd.prog 17 #[.agg #[.slice a n cap, .int .i64 now], .agg #[.int .i64 0, .int .i64 g, .int .i64 mk, .int .i64 dr], .string (t ++ s), .bool fo] W fun r w' => r = .returned (.tuple #[.agg (pv (findA now ns ⟨0, g, mk, dr⟩ s fo).1), .int .i64 (findA now ns ⟨0, g, mk, dr⟩ s fo).2]) ∧ Below W.heap.size W w') := fun W hW => by
            have q := findP_any a n cap ns now ⟨0, g, mk, dr⟩ (t ++ s) fo W ((unhide HN).below hW) (unhide HSM) (by rw [ByteArray.size_append]; omega)
            rw [hS] at q; exact q
          generalize findA now ns ⟨0, g, mk, dr⟩ s fo = R at *
          obtain ⟨⟨rd, rn, ro, rs⟩, re⟩ := R
          simp only at HF1 HF2
          have g3 : ¬ 9223372036854775807 < t.size + s.size := by omega
          have en : (rn.toList == rn.toList) = true := by simp
          clear hS HS hbig
          go_upto_region 11 with fail
          go_cut [66] (fun v wx => v = .bool false ∧ wx = wr)
          case first =>
            by_cases htz : t.size = 0
            · have htz' : ((t.size : Nat) : Int) = 0 := by omega
              go_wp2_with fail
              go_meet
              exact ⟨by rw [decide_eq_false (show ¬ (1024 : Int) < (s.size : Int) by omega)], rfl⟩
            · have hp0 : 0 < t.size := by omega
              have ht1 := unhide ht0 hp0
              go_wp2_with fail
              go_meet
              exact ⟨rfl, rfl⟩
          case rest =>
            obtain ⟨rfl, hwc⟩ := hcut
            rw [← hwc] at HN3 c0 c1 c2 c3 c4 c5 c6 c7 f2 hl
            clear hwc
            go_wp2_with fail
            refine (unhide HF1 _ (unhide HN3).below).mono ?_
            rintro r1 w5 ⟨rfl, b5⟩
            have HN5 := hide ((unhide HN3).step b5)
            have HN5a := hide ((unhide HN5).step (below_new w5 (.cells #[.int .i64 rd, .string rn, .int .i64 ro, .bool rs] tyPlace)))
            have HA5 := hide (heap_alloc_new w5 (.cells #[.int .i64 rd, .string rn, .int .i64 ro, .bool rs] tyPlace))
            clear b5 HN3 c0 c1 c2 c3 c4 c5 c6 c7 f2 hl
            obtain ⟨c0, c1, c2, c3, c4, c5, c6, c7, f2, hl⟩ := (unhide HN5).cells
            go_wp2_with fail
            obtain ⟨P1, hP1⟩ : ∃ P, P = w5.heap.size := ⟨_, rfl⟩
            rw [← hP1] at HA5
            refine (unhide HF2 _ (unhide HN5a).below).mono ?_
            rintro r2 w6 ⟨rfl, b6⟩
            rw [← hP1]
            have HN6 := hide ((unhide HN5a).step b6)
            have HA6 := hide (keep1 (unhide HA5) b6)
            clear b6 HN5 HN5a HA5 c0 c1 c2 c3 c4 c5 c6 c7 f2 hl hP1
            obtain ⟨p0, p1, p2, p3⟩ := place_cells (unhide HA6)
            have hlP := lt1 (unhide HA6)
            have HN7 := hide ((unhide HN6).step (below_new w6 (.cells #[.int .i64 rd, .string rn, .int .i64 ro, .bool rs] tyPlace)))
            clear HN6
            go_wp2_with fail
            refine (unhide HL _).mono ?_
            rintro e w9 ⟨rfl, b9⟩
            have hB9 := hide ((unhide HN7).step b9).below
            clear b9 HL HN7
            go_wp2_with fail
            go_ret
            exact ⟨rfl, unhide hB9⟩
end Go.Proofs.YthmoinagfooncaaDoor.Pt
