import Derived.Test.YtidhceebafmlkaaGreatDoorTrFind
import Derived.Test.YtidhceebafmlkaaGreatDoorPtTurn
import Derived.Deep.RegionHeld3
namespace Go.Proofs.YtidhceebafmlkaaGreatDoor.Tr
open Go.RowKit Cu
abbrev fnFP : Value := .func (.func 276) #[] #[]
set_option maxRecDepth 100000 in
set_option maxHeartbeats 400000 in
theorem cmp1P_any (nm : ByteArray) (no : Int) (t : ByteArray) (w : World) : Calls Tryz.prog 276 #[.agg #[.string nm, .int .i64 no], .string t] w fun e w' => e = .returned (.int .i64 (Lib.compareBytes (bs nm) (bs t))) ∧ Below w.heap.size w w' := by
  have HC := hide (Tryz.strings_Compare nm t)
  generalize Lib.compareBytes nm.data.toList t.data.toList = c at *
  have hb0 : Hid (Below w.heap.size w (w.alloc (.cells #[.string nm, .int .i64 no] 116))) := (Below.refl _ _).alloc (Nat.le_refl _) _
  go_enter Tryz.func276, Tryz.ntmps276
  go_wp2_with (go_at_call 115; refine (uh HC _).mono ?_; rintro e w' ⟨rfl, rfl⟩)
  go_ret
  exact ⟨rfl, uh hb0⟩
set_option maxRecDepth 100000 in
set_option maxHeartbeats 1000000 in
theorem searchP_any (a : Option Addr) (n cap : Nat) (es : List En) (t : ByteArray) (w : World) (h : Eg w a n cap es) (hr : Rises es) (hn : n ≤ 1000000) :
    Calls Tryz.prog 113 #[.slice a n cap, .string t, fnFP] w fun e w' => Below w.heap.size w w' ∧
      ((∃ k : Nat, k < n ∧ e = .returned (.tuple #[.int .i64 k, .bool true]) ∧ (en es k).name = t) ∨ (∃ k : Nat, k ≤ n ∧ e = .returned (.tuple #[.int .i64 k, .bool false]) ∧ ∀ j, j < n → (en es j).name ≠ t)) := by
  rcases h.cells with rfl | ⟨b, off, rfl, hb, hc⟩
  · go_enter Tryz.func113, Tryz.ntmps113
    go_wp2
    refine wp_loop_rounds 1 ?_
    rw [rounds_succ]
    go_wp2
    go_ret2
    exact ⟨Below.refl _ _, .inr ⟨0, Nat.le_refl _, rfl, fun j hj => by omega⟩⟩
  have HC := hide hc
  have HR : Hid (∀ i j, i < j → j < n → bs (en es i).name < bs (en es j).name) := fun i j h1 h2 => hr i j h1 (by rw [h.len]; exact h2)
  have HF := hide cmp1P_any
  clear hc h hr
  go_enter Tryz.func113, Tryz.ntmps113
  go_wp2
  go_loopw [9, 10] (fun x y wr => ∃ i j : Nat, i ≤ j ∧ j ≤ n ∧ x = .int .i64 i ∧ y = .int .i64 j ∧ Hid (∀ k, k < i → bs (en es k).name < bs t) ∧ Hid (∀ k, j ≤ k → k < n → ¬ bs (en es k).name < bs t) ∧ Hid (Below w.heap.size w wr)) (fun x y _ => (intOf y).toNat - (intOf x).toNat)
  case atStart => exact ⟨0, n, Nat.zero_le _, Nat.le_refl _, rfl, rfl, fun k hk => by omega, fun k h1 h2 => by omega, Below.refl _ _⟩
  case round =>
    obtain ⟨i, j, hij, hjn, rfl, rfl, hlo, hhi, hnx⟩ := hrel
    have hsz := (uh hnx).size
    by_cases hlt : i < j
    · have hlt' : (i : Int) < (j : Int) := by omega
      obtain ⟨m, hm⟩ : ∃ m, m = (i + j) / 2 := ⟨_, rfl⟩
      have hmn : m < n := by omega
      have he := (uh HC m hmn).of fun o => (uh hnx).cell (p := ⟨b, o, none⟩) hb
      have e0 := he.c0
      have e1 := he.c1
      have hmj : Hid (i ≤ m ∧ m < j) := hide ⟨by omega, by omega⟩
      have hdiv : ((i : Int) + (j : Int)) / 2 = (m : Int) := by omega
      clear he hm
      go_upto_region 5 with fail
      clear hdiv
      have hHm : Hid (∀ k, k < m → bs (en es k).name < bs (en es m).name) := fun k hk => uh HR k m hk hmn
      have hHn : Hid (∀ k, m < k → k < n → bs (en es m).name < bs (en es k).name) := fun k hk hkn => uh HR m k hk hkn
      obtain ⟨nm, hnm⟩ : ∃ x, x = (en es m).name := ⟨_, rfl⟩
      obtain ⟨no, hno⟩ : ∃ x, x = (en es m).node := ⟨_, rfl⟩
      rw [← hnm] at e0 hHm hHn
      rw [← hno] at e1
      have HF1 := hide (uh HF nm no t wr)
      have hcl := cmp_lt (bs nm) (bs t)
      generalize Lib.compareBytes (bs nm) (bs t) = c at *
      have HNM := hide hnm
      clear hno hnm
      go_wp2_with fail
      refine (uh HF1).mono ?_
      rintro e w1 ⟨rfl, b1⟩
      have hB1 := hide ((uh hnx).trans (b1.mono hsz))
      clear b1 HF1 e0 e1
      by_cases hc0 : c < 0
      · have hlt2 := hide (hcl.1 hc0)
        clear hcl
        go_wp2
        go_roundw
        case rel =>
          refine ⟨m + 1, j, by have := uh hmj; omega, hjn, by go_num, rfl, fun k hk => ?_, hhi, hB1⟩
          by_cases ek : k = m
          · subst ek; rw [← uh HNM]; exact uh hlt2
          · exact bs_lt_trans (uh hHm k (by omega)) (uh hlt2)
        case measure => have := uh hmj; simp [intOf]; omega
      · have hge2 : Hid (¬ bs nm < bs t) := hide (fun h => hc0 (hcl.2 h))
        clear hcl
        go_wp2
        go_roundw
        case rel =>
          refine ⟨i, m, by have := uh hmj; omega, by omega, rfl, rfl, hlo, fun k hk hkn h => ?_, hB1⟩
          by_cases ek : k = m
          · subst ek; rw [← uh HNM] at h; exact uh hge2 h
          · exact uh hge2 (bs_lt_trans (uh hHn k (by omega) hkn) h)
        case measure => have := uh hmj; simp [intOf]; omega
    · obtain rfl : i = j := by omega
      by_cases hin : i < n
      · have hin' : (i : Int) < (n : Int) := by omega
        have he := (uh HC i hin).of fun o => (uh hnx).cell (p := ⟨b, o, none⟩) hb
        have e0 := he.c0
        have e1 := he.c1
        clear he
        have hge := hide (uh hhi i (Nat.le_refl _) hin)
        have hHn : Hid (∀ k, i < k → k < n → bs (en es i).name < bs (en es k).name) := fun k hk hkn => uh HR i k hk hkn
        obtain ⟨nm, hnm⟩ : ∃ x, x = (en es i).name := ⟨_, rfl⟩
        obtain ⟨no, hno⟩ : ∃ x, x = (en es i).node := ⟨_, rfl⟩
        rw [← hnm] at e0 hHn hge
        rw [← hno] at e1
        have HF1 := hide (uh HF nm no t wr)
        have hcl := cmp_eq (bs nm) (bs t)
        generalize Lib.compareBytes (bs nm) (bs t) = c at *
        have HNM := hide hnm
        clear hno hnm
        go_wp2_with fail
        refine (uh HF1).mono ?_
        rintro e w1 ⟨rfl, b1⟩
        have hB1 := hide ((uh hnx).trans (b1.mono hsz))
        clear b1 HF1 e0 e1
        by_cases hc0 : c = 0
        · have heq : nm = t := ba_ext (hcl.1 hc0)
          subst hc0
          have HEQ := hide heq
          clear heq hcl
          go_wp2
          go_ret2
          exact ⟨uh hB1, .inl ⟨i, hin, rfl, by rw [← uh HNM]; exact uh HEQ⟩⟩
        · have hne : Hid (nm ≠ t) := hide (fun e => hc0 (hcl.2 (by rw [e])))
          have hc1 : (c == 0) = false := by simp [hc0]
          clear hcl hc0
          go_wp2
          go_ret2
          refine ⟨uh hB1, .inr ⟨i, by omega, rfl, fun k hk e => ?_⟩⟩
          by_cases h1 : k < i
          · have := uh hlo k h1
            rw [e] at this; exact List.lt_irrefl _ this
          · by_cases h2 : k = i
            · subst h2; rw [← uh HNM] at e; exact uh hne e
            · have := uh hHn k (by omega) hk
              rw [e] at this
              exact uh hge this
      · have hin' : (n : Int) ≤ (i : Int) := by omega
        go_wp2
        go_ret2
        refine ⟨uh hnx, .inr ⟨i, by omega, rfl, fun k hk e => ?_⟩⟩
        have := uh hlo k (by omega)
        rw [e] at this; exact List.lt_irrefl _ this
end Go.Proofs.YtidhceebafmlkaaGreatDoor.Tr

namespace Go.Proofs.YtidhceebafmlkaaGreatDoor.Pt
open Go.RowKit Cu Tr Pm
set_option maxRecDepth 100000 in
set_option maxHeartbeats 1000000 in
theorem listed_any (la : Option Addr) (ll lc : Nat) (es : List En) (t : ByteArray) (w : World) (h : Eg w la ll lc es) (hr : Rises es) (hn : ll ≤ 1000000) :
    Calls Tryz.prog 268 #[.slice la ll lc, .string t] w fun e w' => e = .returned (.int .i64 (findP es t)) ∧ Below w.heap.size w w' := by
  have HS := hide (searchP_any la ll lc es t w h hr hn)
  have HE : Hid (∀ W j, Below w.heap.size w W → j < ll → ∃ eb eo, la = some ⟨eb, eo, none⟩ ∧ W.cell? ⟨eb, eo + j * 2 + 1, none⟩ = some (.int .i64 (en es j).node)) := fun W j hW hj => by
    rcases (h.below hW).cells with h0 | ⟨eb, eo, h1, h2, h3⟩
    · omega
    · exact ⟨eb, eo, h1, (h3 j hj).c1⟩
  have HR := hide hr
  have HL := hide h.len
  clear h hr
  go_enter Tryz.func268, Tryz.ntmps268
  go_wp2_with fail
  refine (uh HS).mono ?_
  clear HS
  rintro e w2 ⟨b2, ⟨j, hj, rfl, hjt⟩ | ⟨j, hj, rfl, hjt⟩⟩
  · have hB2 := hide b2
    obtain ⟨eb, eo, rfl, ce⟩ := uh HE w2 j b2 hj
    have hF := hide (find_at (uh HR) j (by rw [uh HL]; exact hj) hjt)
    generalize (en es j).node = no at *
    clear hjt b2 HE
    go_wp2
    go_ret
    exact ⟨by rw [uh hF]; rfl, uh hB2⟩
  · have hB2 := hide b2
    have hF := hide (find_no (es := es) (t := t) (by rw [uh HL]; exact hjt))
    clear hjt b2 HE
    go_wp2
    go_ret
    exact ⟨by rw [uh hF]; rfl, uh hB2⟩
theorem node_cells {W : World} {N : Nat} {c0 c1 c2 c3 c4 c5 c6 c7 c8 c9 : Value} (h : W.heap[N]? = some (.cells #[c0, c1, c2, c3, c4, c5, c6, c7, c8, c9] tyNode)) : W.cell? ⟨N, 0, none⟩ = some c0 ∧ W.cell? ⟨N, 1, none⟩ = some c1 ∧ W.cell? ⟨N, 2, none⟩ = some c2 ∧ W.cell? ⟨N, 3, none⟩ = some c3 ∧ W.cell? ⟨N, 4, none⟩ = some c4 ∧ W.cell? ⟨N, 5, none⟩ = some c5 ∧ W.cell? ⟨N, 6, none⟩ = some c6 ∧ W.cell? ⟨N, 7, none⟩ = some c7 ∧ W.cell? ⟨N, 8, none⟩ = some c8 ∧ W.cell? ⟨N, 9, none⟩ = some c9 := by
  refine ⟨?_, ?_, ?_, ?_, ?_, ?_, ?_, ?_, ?_, ?_⟩ <;> (rw [cell_of_row _ _ _ _ _ _ h]; rfl)
structure Tk (w W : World) (B N : Nat) (cB cN : Array Value) : Prop where
  below : Below w.heap.size w W
  trip : W.heap[B]? = some (.cells cB tyTrip)
  node : W.heap[N]? = some (.cells cN tyNode)
theorem Tk.step {w W W' : World} {B N : Nat} {cB cN : Array Value} (h : Tk w W B N cB cN) (hb : Below W.heap.size W W') : Tk w W' B N cB cN :=
  ⟨h.below.trans (hb.mono h.below.size), (hb.block _ (Array.getElem?_eq_some_iff.1 h.trip).1).trans h.trip, (hb.block _ (Array.getElem?_eq_some_iff.1 h.node).1).trans h.node⟩
theorem Tk.drew {w W : World} {B N : Nat} {cB cN : Array Value} (h : Tk w W B N cB cN) : Tk w W.drew B N cB cN := ⟨⟨h.below.os, h.below.tape, h.below.output, h.below.size, h.below.block⟩, h.trip, h.node⟩
theorem Tk.cells {w W : World} {B N : Nat} {t0 t1 t2 t3 t4 t5 t6 t7 c0 c1 c2 c3 c4 c5 c6 c7 c8 c9 : Value} (h : Tk w W B N #[t0, t1, t2, t3, t4, t5, t6, t7] #[c0, c1, c2, c3, c4, c5, c6, c7, c8, c9]) :
    W.cell? ⟨N, 0, none⟩ = some c0 ∧ W.cell? ⟨N, 1, none⟩ = some c1 ∧ W.cell? ⟨N, 2, none⟩ = some c2 ∧ W.cell? ⟨N, 3, none⟩ = some c3 ∧ W.cell? ⟨N, 4, none⟩ = some c4 ∧ W.cell? ⟨N, 5, none⟩ = some c5 ∧ W.cell? ⟨N, 6, none⟩ = some c6 ∧ W.cell? ⟨N, 7, none⟩ = some c7 ∧ W.cell? ⟨N, 8, none⟩ = some c8 ∧ W.cell? ⟨N, 9, none⟩ = some c9 ∧ W.cell? ⟨B, 1, none⟩ = some t1 ∧ W.cell? ⟨B, 2, none⟩ = some t2 ∧ W.cell? ⟨B, 3, none⟩ = some t3 ∧ W.cell? ⟨B, 4, none⟩ = some t4 := by
  obtain ⟨_, x1, x2, x3, x4, _, _, _⟩ := trip_cells h.trip
  obtain ⟨y0, y1, y2, y3, y4, y5, y6, y7, y8, y9⟩ := node_cells h.node
  exact ⟨y0, y1, y2, y3, y4, y5, y6, y7, y8, y9, x1, x2, x3, x4⟩
set_option maxRecDepth 100000 in
set_option maxHeartbeats 1000000 in
theorem take_any (now : Int) (B : Nat) (a : Option Addr) (n cap : Nat) (ns : List Nd) (e : Ev) (d : Nat) (v : Value) (dirs : Bool) (s : ByteArray) (w : World) (hB : w.heap[B]? = some (.cells (trA a n cap e d v dirs) tyTrip)) (hg : Ng w a n cap ns) (hc : checkP now ns = true) (hd : Dr ns d) :
    Calls Tryz.prog 240 #[.pointer (some ⟨B, 0, none⟩), .string s] w fun r w' => r = .returned (.tuple #[.int .i64 (takeP ns e d s).1, .int .i64 (takeP ns e d s).2]) ∧ Below w.heap.size w w' := by
  have hlen := hg.len
  have hdn : d < n := by rw [← hlen]; exact hd.2.1
  rcases hg.cells with h0 | ⟨b, off, rfl, hb, hcs⟩
  · omega
  obtain ⟨da, dc, la, lc, h10, -, heg⟩ := hcs d hdn
  have hlp := dr_list hc hd
  have hl512 : (nd ns d).list.length ≤ 512 := by
    unfold listP at hlp
    simp only [Bool.and_eq_true, decide_eq_true_eq] at hlp
    exact hlp.1
  have HM : Hid (∀ W, Calls Tryz.prog 37 #[.agg (na (nd ns d) (.slice da (nd ns d).data.length dc) (.slice la (nd ns d).list.length lc)), .agg (ea e), .int .i64 1] W fun r w' => r = .returned (.bool (mayP (nd ns d) e 1)) ∧ Below W.heap.size W w') := fun W => may_any _ _ _ e 1 W
  have HF : Hid (∀ W, Below w.heap.size w W → Calls Tryz.prog 268 #[.slice la (nd ns d).list.length lc, .string s] W fun r w' => r = .returned (.int .i64 (findP (nd ns d).list s)) ∧ Below W.heap.size W w') := fun W hW => listed_any la _ lc _ s W (heg.below hW) (rises_of hlp) (by omega)
  have HT : Hid (takeP ns e d s = if mayP (nd ns d) e 1 = false then (0, 10) else if 64 < s.size then (0, 13) else if s = dot then ((d : Int), 0) else if s = dots then ((nd ns d).parent, 0) else (findP (nd ns d).list s, 0)) := rfl
  have hBl : B < w.heap.size := (Array.getElem?_eq_some_iff.1 hB).1
  obtain ⟨p0, p1, p2, p3, p4, p5, p6, p7⟩ := trip_cells hB
  obtain ⟨q0, q1, q2, q3, q4, q5, q6, q7, q8, q9⟩ := h10
  generalize mayP (nd ns d) e 1 = M at *
  generalize findP (nd ns d).list s = F at *
  obtain ⟨R, hR⟩ : ∃ R, R = takeP ns e d s := ⟨_, rfl⟩
  rw [← hR] at HT ⊢
  clear hR heg hcs hlp hg hlen hd hc
  generalize nd ns d = x at *
  obtain ⟨kd, md, us, gr, lk, ti, dt, tg, ls, pa⟩ := x
  obtain ⟨u, g, mk, dr⟩ := e
  simp only at HM HF HT p0 p1 p2 p3 p4 p5 p6 p7 q0 q1 q2 q3 q4 q5 q6 q7 q8 q9
  unfold na ea at HM
  simp only at HM
  generalize dt.length = dl at *
  generalize ls.length = ll at *
  have K0 : Hid (Tk w (w.alloc (.cells #[.int .u8 kd.toNat, .int .i64 md, .int .i64 us, .int .i64 gr, .int .i64 lk, .int .i64 ti, .slice da dl dc, .string tg, .slice la ll lc, .int .i64 pa] tyNode)).drew B w.heap.size #[.slice (some ⟨b, off, none⟩) n cap, .int .i64 u, .int .i64 g, .int .i64 mk, .int .i64 dr, .int .i64 d, v, .bool dirs] #[.int .u8 kd.toNat, .int .i64 md, .int .i64 us, .int .i64 gr, .int .i64 lk, .int .i64 ti, .slice da dl dc, .string tg, .slice la ll lc, .int .i64 pa]) := by
    have h0 : Below w.heap.size w (w.alloc (.cells #[.int .u8 kd.toNat, .int .i64 md, .int .i64 us, .int .i64 gr, .int .i64 lk, .int .i64 ti, .slice da dl dc, .string tg, .slice la ll lc, .int .i64 pa] tyNode)) := (Below.refl _ _).alloc (Nat.le_refl _) _
    exact ⟨⟨h0.os, h0.tape, h0.output, h0.size, h0.block⟩, (h0.block B hBl).trans hB, heap_alloc_new w _⟩
  clear hB
  go_enter Tryz.func240, Tryz.ntmps240
  go_wp2_with fail
  go_region
  obtain ⟨w1, hw1⟩ : ∃ w1, w1 = (w.alloc (.cells #[.int .u8 kd.toNat, .int .i64 md, .int .i64 us, .int .i64 gr, .int .i64 lk, .int .i64 ti, .slice da dl dc, .string tg, .slice la ll lc, .int .i64 pa] tyNode)).drew := ⟨_, rfl⟩
  rw [← hw1] at K0 ⊢
  obtain ⟨N, hN⟩ : ∃ N, N = w.heap.size := ⟨_, rfl⟩
  rw [← hN] at K0 ⊢
  clear hN hw1 p0 p1 p2 p3 p4 p5 p6 p7 q0 q1 q2 q3 q4 q5 q6 q7 q8 q9
  have K0d := hide (uh K0).drew
  have hS := (uh K0d).cells
  go_wp2_with fail
  go_region_held3 (fun w' => w'.cell? ⟨N, 0, none⟩ = some (.int .u8 kd.toNat) ∧ w'.cell? ⟨N, 1, none⟩ = some (.int .i64 md) ∧ w'.cell? ⟨N, 2, none⟩ = some (.int .i64 us) ∧ w'.cell? ⟨N, 3, none⟩ = some (.int .i64 gr) ∧ w'.cell? ⟨N, 4, none⟩ = some (.int .i64 lk) ∧ w'.cell? ⟨N, 5, none⟩ = some (.int .i64 ti) ∧ w'.cell? ⟨N, 6, none⟩ = some (.slice da dl dc) ∧ w'.cell? ⟨N, 7, none⟩ = some (.string tg) ∧ w'.cell? ⟨N, 8, none⟩ = some (.slice la ll lc) ∧ w'.cell? ⟨N, 9, none⟩ = some (.int .i64 pa) ∧ w'.cell? ⟨B, 1, none⟩ = some (.int .i64 u) ∧ w'.cell? ⟨B, 2, none⟩ = some (.int .i64 g) ∧ w'.cell? ⟨B, 3, none⟩ = some (.int .i64 mk) ∧ w'.cell? ⟨B, 4, none⟩ = some (.int .i64 dr)) (with_reducible assumption)
    (first
      | ((with_reducible refine (uh HM _).mono ?_); rintro r w3 ⟨rfl, hb3⟩; have K1 := hide ((uh K0d).step hb3); have hS2 := (uh K1).cells; clear hb3)
      | fail)
  clear hS hS2 K0 K0d HM
  have p5 := (trip_cells (uh K1).trip).2.2.2.2.2.1
  obtain ⟨y0, y1, y2, y3, y4, y5, y6, y7, y8, y9⟩ := node_cells (uh K1).node
  have HB := hide (uh K1).below
  cases M with
  | false =>
    obtain rfl : R = (0, 10) := by rw [uh HT]; rfl
    clear HT HF
    go_wp2_with fail
    go_ret2
    exact ⟨rfl, uh HB⟩
  | true =>
  by_cases h1 : 64 < s.size
  · obtain rfl : R = (0, 13) := by rw [uh HT, if_neg (by decide), if_pos h1]
    have h1' : (64 : Int) < (s.size : Int) := by omega
    clear HT HF h1
    go_wp2_with fail
    go_ret2
    exact ⟨rfl, uh HB⟩
  have h1' : ¬ (64 : Int) < (s.size : Int) := by omega
  by_cases h2 : s = dot
  · obtain rfl : R = ((d : Int), 0) := by rw [uh HT, if_neg (by decide), if_neg h1, if_pos h2]
    clear HT HF h1 h1'
    subst h2
    go_wp2_with fail
    go_ret2
    exact ⟨rfl, uh HB⟩
  have h2' : (s.toList == [46]) = false := by
    rw [ByteArray.toList_eq, Bool.eq_false_iff]
    intro h
    exact h2 (ba_ext (beq_iff_eq.1 h))
  by_cases h3 : s = dots
  · obtain rfl : R = (pa, 0) := by rw [uh HT, if_neg (by decide), if_neg h1, if_neg h2, if_pos h3]
    clear HT HF h1 h1' h2 h2'
    subst h3
    go_wp2_with fail
    go_ret2
    exact ⟨rfl, uh HB⟩
  have h3' : (s.toList == [46, 46]) = false := by
    rw [ByteArray.toList_eq, Bool.eq_false_iff]
    intro h
    exact h3 (ba_ext (beq_iff_eq.1 h))
  obtain rfl : R = (F, 0) := by rw [uh HT, if_neg (by decide), if_neg h1, if_neg h2, if_neg h3]
  clear HT h2 h3 h1
  go_wp2_with fail
  refine (uh HF _ (uh HB)).mono ?_
  rintro r w4 ⟨rfl, hb4⟩
  have HB4 := hide ((uh HB).trans (hb4.mono (uh HB).size))
  clear hb4
  go_wp2_with fail
  go_ret2
  exact ⟨rfl, uh HB4⟩
end Go.Proofs.YtidhceebafmlkaaGreatDoor.Pt
