import Derived.Test.YtidhceebafmlkaaGreatDoorCaMv1
import Derived.Test.YtidhceebafmlkaaGreatDoorCaSlash
import Derived.Test.YtidhceebafmlkaaGreatDoorCaDraft
import Derived.Test.YtidhceebafmlkaaGreatDoorCaStore2
import Derived.Lib.LaidTab
import Derived.OpenShut
import Derived.MakeChecks
namespace Go.Proofs.YtidhceebafmlkaaGreatDoor.Ca
open Go.RowKit Cu Tr Pm Pt
abbrev stA (c0 c1 c2 c3 c4 c5 c6 c7 : Int) : Array Value := #[.int .i64 c0, .int .u8 c1, .int .i64 c2, .int .i64 c3, .int .i64 c4, .int .i64 c5, .int .i64 c6, .int .i64 c7]
theorem cstat_form (now : Int) (ns : List Nd) (e : Ev) (s : ByteArray) (f : Bool) : ∃ c0 c1 c2 c3 c4 c5 c6 c7, cstatV now ns e s f = .tuple #[.agg (stA c0 c1 c2 c3 c4 c5 c6 c7), .int .i64 (lookP now ns e s f).2]
    ∧ ((lookP now ns e s f).2 = 0 → c0 = (lookP now ns e s f).1.1 ∧ c1 = ((lookP now ns e s f).1.2.kind.toNat : Int) ∧ c2 = (lookP now ns e s f).1.2.mode ∧ c5 = (lookP now ns e s f).1.2.links ∧ c6 = (sizeP (lookP now ns e s f).1.2 : Int)) := by
  unfold cstatV
  by_cases h : (lookP now ns e s f).2 = 0
  · rw [if_neg (fun q => q h)]
    exact ⟨_, _, _, _, _, _, _, _, by rw [h], fun _ => ⟨rfl, rfl, rfl, rfl, rfl⟩⟩
  · rw [if_pos h]
    exact ⟨_, _, _, _, _, _, _, _, rfl, fun q => absurd q h⟩
theorem bx8 {W : World} {b : Nat} {t : TypeId} {v0 v1 v2 v3 v4 v5 v6 v7 : Value} (h : W.heap[b]? = some (.cells #[v0, v1, v2, v3, v4, v5, v6, v7] t (0, 0))) : W.cell? ⟨b, 0, none⟩ = some v0 ∧ W.cell? ⟨b, 1, none⟩ = some v1 ∧ W.cell? ⟨b, 2, none⟩ = some v2 ∧ W.cell? ⟨b, 3, none⟩ = some v3 ∧ W.cell? ⟨b, 4, none⟩ = some v4 ∧ W.cell? ⟨b, 5, none⟩ = some v5 ∧ W.cell? ⟨b, 6, none⟩ = some v6 ∧ W.cell? ⟨b, 7, none⟩ = some v7 :=
  ⟨cell_of_row _ _ _ _ _ _ h, cell_of_row _ _ _ _ _ _ h, cell_of_row _ _ _ _ _ _ h, cell_of_row _ _ _ _ _ _ h, cell_of_row _ _ _ _ _ _ h, cell_of_row _ _ _ _ _ _ h, cell_of_row _ _ _ _ _ _ h, cell_of_row _ _ _ _ _ _ h⟩
theorem told_size {x y : Nd} (h : Told x y) : sizeP x = sizeP y := by
  obtain ⟨h1, h2, _, _, h5, h6, _⟩ := h
  unfold sizeP
  rw [h1, h2, h5, h6]
abbrev mvA (a : Option Addr) (n cap : Nat) (now : Int) (e : Ev) (s t : ByteArray) : Array Value := #[.slice a n cap, .int .i64 now, .int .i64 e.user, .int .i64 e.group, .int .i64 e.mask, .int .i64 e.dir, .string s, .string t]
theorem move_say {now : Int} {ns : List Nd} {e : Ev} {s t : ByteArray} (h1 : hasB s 47 = false) (h2 : hasB t 47 = false) {a0 a1 a2 a5 a6 b0 b1 b2 b5 b6 c0 c1 c2 c5 c6 : Int}
    (ha : (lookP now ns e s false).2 = 0 → a0 = (lookP now ns e s false).1.1 ∧ a1 = ((lookP now ns e s false).1.2.kind.toNat : Int) ∧ a2 = (lookP now ns e s false).1.2.mode ∧ a5 = (lookP now ns e s false).1.2.links ∧ a6 = (sizeP (lookP now ns e s false).1.2 : Int))
    (hb : (lookP now ns e t false).2 = 0 → b0 = (lookP now ns e t false).1.1 ∧ b1 = ((lookP now ns e t false).1.2.kind.toNat : Int) ∧ b2 = (lookP now ns e t false).1.2.mode ∧ b5 = (lookP now ns e t false).1.2.links ∧ b6 = (sizeP (lookP now ns e t false).1.2 : Int))
    (hok : (doP now ns ⟨8, s, t, 0, 0, 0, 0, [], e⟩).2 = 0)
    (hc : (lookP now (doP now ns ⟨8, s, t, 0, 0, 0, 0, [], e⟩).1.1 e t false).2 = 0 → c0 = (lookP now (doP now ns ⟨8, s, t, 0, 0, 0, 0, [], e⟩).1.1 e t false).1.1 ∧ c1 = ((lookP now (doP now ns ⟨8, s, t, 0, 0, 0, 0, [], e⟩).1.1 e t false).1.2.kind.toNat : Int) ∧ c2 = (lookP now (doP now ns ⟨8, s, t, 0, 0, 0, 0, [], e⟩).1.1 e t false).1.2.mode ∧ c5 = (lookP now (doP now ns ⟨8, s, t, 0, 0, 0, 0, [], e⟩).1.1 e t false).1.2.links ∧ c6 = (sizeP (lookP now (doP now ns ⟨8, s, t, 0, 0, 0, 0, [], e⟩).1.1 e t false).1.2 : Int)) :
    (lookP now ns e s false).2 = 0 ∧ (lookP now (doP now ns ⟨8, s, t, 0, 0, 0, 0, [], e⟩).1.1 e t false).2 = 0 ∧ c0 = a0 ∧ c1 = a1 ∧ c6 = a6 ∧ c2 = a2 ∧ c5 = a5 ∧ (((lookP now ns e t false).2 = 0 ∧ a0 = b0) ∨ (lookP now (doP now ns ⟨8, s, t, 0, 0, 0, 0, [], e⟩).1.1 e s false).2 ≠ 0) := by
  obtain ⟨m1, m2, m3, m4, m5, m6⟩ := move_ok h1 h2 hok
  obtain ⟨p0, p1, p2, p5, p6⟩ := ha m1
  obtain ⟨q0, q1, q2, q5, q6⟩ := hc m3
  refine ⟨m1, m3, by rw [q0, p0, m4], by rw [q1, p1, m5.1], by rw [q6, p6, told_size m5], by rw [q2, p2, m5.2.2.1], by rw [q5, p5, m5.2.2.2.1], ?_⟩
  rcases m6 with ⟨x, y⟩ | x
  · exact .inl ⟨x, by rw [p0, y, (hb x).1]⟩
  · exact .inr x
theorem move_chk {now : Int} {ns : List Nd} {e : Ev} {s t : ByteArray} (hok : (doP now ns ⟨8, s, t, 0, 0, 0, 0, [], e⟩).2 = 0) : checkP (doP now ns ⟨8, s, t, 0, 0, 0, 0, [], e⟩).1.2 (doP now ns ⟨8, s, t, 0, 0, 0, 0, [], e⟩).1.1 = true := by
  obtain ⟨hm, he, hf, hdo⟩ := do_parts hok
  have hfa := both_path (c := ⟨8, s, t, 0, 0, 0, 0, [], e⟩) rfl hf
  have hfb := both_other (c := ⟨8, s, t, 0, 0, 0, 0, [], e⟩) (.inr (.inr rfl)) hf
  have hc := (some_own he).2.2
  rw [hdo] at hok ⊢
  generalize (findBoth now ns ⟨8, s, t, 0, 0, 0, 0, [], e⟩).1.2 = q at *
  generalize (findBoth now ns ⟨8, s, t, 0, 0, 0, 0, [], e⟩).1.1 = p at *
  replace hfa : findA now ns e s false = (p, 0) := hfa
  replace hfb : findA now ns e t false = (q, 0) := hfb
  have hp : Okp ns p := by have := find_ok (now := now) (ns := ns) (e := e) (s := s) (f := false) (by rw [hfa]); rwa [hfa] at this
  have hq : Okp ns q := by have := find_ok (now := now) (ns := ns) (e := e) (s := t) (f := false) (by rw [hfb]); rwa [hfb] at this
  have hd0 : (Ac.mk now ns ⟨8, s, t, 0, 0, 0, 0, [], e⟩ p q).does = (Ac.mk now ns ⟨8, s, t, 0, 0, 0, 0, [], e⟩ p q).rename := by
    unfold Ac.does
    rw [if_neg (show ¬ (8 : UInt8) = 1 by decide), if_neg (show ¬ (8 : UInt8) = 2 by decide), if_neg (show ¬ (8 : UInt8) = 3 by decide), if_neg (show ¬ (8 : UInt8) = 4 by decide), if_neg (show ¬ (8 : UInt8) = 5 by decide), if_neg (show ¬ (8 : UInt8) = 6 by decide), if_neg (show ¬ (8 : UInt8) = 7 by decide), if_pos rfl]
  rw [hd0] at hok ⊢
  rcases keeps_rename (Ac.mk now ns ⟨8, s, t, 0, 0, 0, 0, [], e⟩ p q) hc hp hq with ⟨_, w⟩ | ⟨w, _⟩
  · exact w
  · exact absurd hok w
set_option maxRecDepth 100000 in
set_option maxHeartbeats 4000000 in
theorem move_any (a : Option Addr) (n cap : Nat) (ns : List Nd) (now : Int) (e : Ev) (s t : ByteArray) (w : World) (hg : Ng w a n cap ns) (hn : n ≤ 281474976710656) (hr : ∀ i, i < n → Rb (nd ns i)) (hrw : Rw w) (hs : s.size ≤ 281474976710656) (ht : t.size ≤ 281474976710656) :
    Calls Tryz.prog 8 #[.agg (mvA a n cap now e s t)] w fun r w' => r = .returned (.bool true) ∧ Below w.heap.size w w' := by
  obtain ⟨u, g, mk, dr⟩ := e
  have HG := hide hg
  have HRw := hide hrw
  have HLv : Hid (∀ W, Below w.heap.size w W → Calls Tryz.prog 10 #[] W fun e w' => e = .returned (.bool true) ∧ Below W.heap.size W w') := fun W hW => lives_any W (hrw.below hW)
  have HGr := hide (fun W (hW : Below w.heap.size w W) => great0_any a n cap ns now W (hg.below hW) hn hr)
  have hk0 : Kb w w [] := ⟨Below.refl _ _, fun p hp => by cases hp⟩
  have hk1 := hk0.al (.cells (mvA a n cap now ⟨u, g, mk, dr⟩ s t) 87)
  clear hg hrw hr hk0
  go_enter Tryz.func8, Tryz.ntmps8
  go_upto_region 1 with fail
  obtain ⟨V1, e1⟩ := hk1.w
  rw [e1] at hk1 ⊢
  clear e1
  obtain ⟨x0, x1, x2, x3, x4, x5, x6, x7⟩ := bx8 (hk1.has (w.heap.size, .cells (mvA a n cap now ⟨u, g, mk, dr⟩ s t) 87) (by simp))
  have hk := hk1.al (.cells #[.slice a n cap, .int .i64 now] 24)
  go_upto_region 2 with fail
  clear hk1 x0 x1 x2 x3 x4 x5 x6 x7
  generalize V1.heap.size = b at *
  obtain ⟨V2, e2⟩ := hk.w
  rw [e2] at hk ⊢
  clear e2
  obtain ⟨x0, x1, x2, x3, x4, x5, x6, x7⟩ := bx8 (hk.has (w.heap.size, .cells (mvA a n cap now ⟨u, g, mk, dr⟩ s t) 87) (by simp))
  have hk1 := hk.al (.cells #[.int .i64 u, .int .i64 g, .int .i64 mk, .int .i64 dr] 32)
  go_upto_region 3 with fail
  clear hk x0 x1 x2 x3 x4 x5 x6 x7
  generalize V2.heap.size = c at *
  obtain ⟨V2, e2⟩ := hk1.w
  rw [e2] at hk1 ⊢
  clear e2
  obtain ⟨x0, x1, x2, x3, x4, x5, x6, x7⟩ := bx8 (hk1.has (w.heap.size, .cells (mvA a n cap now ⟨u, g, mk, dr⟩ s t) 87) (by simp))
  go_upto_region 5 with fail
  have hk := hk1
  clear hk1 x0 x1 x2 x3 x4 x5 x6 x7
  obtain ⟨t0, t1⟩ := bx2 (hk.has (b, .cells #[.slice a n cap, .int .i64 now] 24) (by simp))
  obtain ⟨u0, u1, u2, u3⟩ := bx4 (hk.has (c, .cells #[.int .i64 u, .int .i64 g, .int .i64 mk, .int .i64 dr] 32) (by simp))
  go_wp2_with fail
  refine (uh HGr V2 hk.bel).mono ?_
  rintro r V3 ⟨⟨q, rfl, hq⟩, hb⟩
  replace hk := hk.below hb
  clear hb t0 t1 u0 u1 u2 u3 HGr
  cases q with
  | true =>
    clear hq
    go_wp2_with fail
    refine (uh HLv _ hk.bel).mono ?_
    rintro r V4 ⟨rfl, hb⟩
    have HB := hide (hk.below hb).bel
    clear hb
    go_wp2
    go_ret
    exact ⟨rfl, uh HB⟩
  | false =>
  have hs1 := sm_of_size (Nat.le_trans (hq rfl) (by decide))
  have HS := hide hs1
  clear hq hs1
  have hwr : IntKind.i64.wrap ((s.size : Int) + (t.size : Int)) = (s.size : Int) + (t.size : Int) := by rw [IntWalk.i64_left]; unfold wrap64; omega
  by_cases hst : (5000 : Int) < (s.size : Int) + (t.size : Int)
  · go_wp2_with fail
    refine (uh HLv _ hk.bel).mono ?_
    rintro r V4 ⟨rfl, hb⟩
    have HB := hide (hk.below hb).bel
    clear hb
    go_wp2
    go_ret
    exact ⟨rfl, uh HB⟩
  have hss : s.size ≤ 5000 := by omega
  have htt : t.size ≤ 5000 := by omega
  have HSl1 := hide (slash_any s V3 (by omega))
  have HSl2 := hide (slash_any t V3 (by omega))
  obtain ⟨z1, hz1⟩ : ∃ z, z = hasB s 47 := ⟨_, rfl⟩
  obtain ⟨z2, hz2⟩ : ∃ z, z = hasB t 47 := ⟨_, rfl⟩
  rw [← hz1] at HSl1
  rw [← hz2] at HSl2
  replace hz1 := hide hz1
  replace hz2 := hide hz2
  go_wp2_with fail
  refine (uh HSl1).mono ?_
  rintro r V4 ⟨rfl, rfl⟩
  cases z1 with
  | true =>
    go_wp2_with fail
    refine (uh HLv _ hk.bel).mono ?_
    rintro r V4 ⟨rfl, hb⟩
    have HB := hide (hk.below hb).bel
    clear hb
    go_wp2
    go_ret
    exact ⟨rfl, uh HB⟩
  | false =>
  go_wp2_with fail
  refine (uh HSl2).mono ?_
  rintro r V4 ⟨rfl, rfl⟩
  cases z2 with
  | true =>
    go_wp2_with fail
    refine (uh HLv _ hk.bel).mono ?_
    rintro r V4 ⟨rfl, hb⟩
    have HB := hide (hk.below hb).bel
    clear hb
    go_wp2
    go_ret
    exact ⟨rfl, uh HB⟩
  | false =>
  obtain ⟨a0, a1, a2, a3, a4, a5, a6, a7, ea1, ha⟩ := cstat_form now ns ⟨u, g, mk, dr⟩ s false
  obtain ⟨b0, b1, b2, b3, b4, b5, b6, b7, eb1, hb1⟩ := cstat_form now ns ⟨u, g, mk, dr⟩ t false
  obtain ⟨f, hf⟩ : ∃ f, f = (lookP now ns ⟨u, g, mk, dr⟩ s false).2 := ⟨_, rfl⟩
  obtain ⟨j, hj⟩ : ∃ j, j = (lookP now ns ⟨u, g, mk, dr⟩ t false).2 := ⟨_, rfl⟩
  obtain ⟨R, hR⟩ : ∃ R, R = doP now ns ⟨8, s, t, 0, 0, 0, 0, [], ⟨u, g, mk, dr⟩⟩ := ⟨_, rfl⟩
  rw [← hf] at ea1
  rw [← hj] at eb1
  have HA := hide ha
  have HB1 := hide hb1
  have HF := hide hf
  have HJ := hide hj
  have HR := hide hR
  have HSt := hide (fun W (hW : Below w.heap.size w W) => cstat_any a n cap now ns ⟨u, g, mk, dr⟩ s false W ((uh HG).below hW) (uh HS) (by omega))
  have HSu := hide (fun W (hW : Below w.heap.size w W) => cstat_any a n cap now ns ⟨u, g, mk, dr⟩ t false W ((uh HG).below hW) (uh HS) (by omega))
  have HDo := hide (fun W (hW : Below w.heap.size w W) => do_any a n cap none 0 now ns ⟨8, s, t, 0, 0, 0, 0, [], ⟨u, g, mk, dr⟩⟩ W ((uh HG).below hW) (uh HS) (by_nil W) ((uh HRw).below hW) (show s.size ≤ _ by omega) (show t.size ≤ _ by omega) (Nat.zero_le _))
  rw [ea1] at HSt
  rw [eb1] at HSu
  rw [← hR] at HDo
  clear ea1 eb1 ha hb1 hf hj hR HSl1 HSl2
  obtain ⟨t0, t1⟩ := bx2 (hk.has (b, .cells #[.slice a n cap, .int .i64 now] 24) (by simp))
  obtain ⟨u0, u1, u2, u3⟩ := bx4 (hk.has (c, .cells #[.int .i64 u, .int .i64 g, .int .i64 mk, .int .i64 dr] 32) (by simp))
  go_wp2_with fail
  refine (uh HSt _ hk.bel).mono ?_
  rintro r V5 ⟨rfl, hb⟩
  replace hk := (hk.below hb).al (.cells (stA a0 a1 a2 a3 a4 a5 a6 a7) 67)
  clear hb t0 t1 u0 u1 u2 u3 HSt
  go_upto_region 8 with fail
  generalize V5.heap.size = x at *
  obtain ⟨V6, e6⟩ := hk.w
  rw [e6] at hk ⊢
  clear e6
  obtain ⟨t0, t1⟩ := bx2 (hk.has (b, .cells #[.slice a n cap, .int .i64 now] 24) (by simp))
  obtain ⟨u0, u1, u2, u3⟩ := bx4 (hk.has (c, .cells #[.int .i64 u, .int .i64 g, .int .i64 mk, .int .i64 dr] 32) (by simp))
  go_wp2_with fail
  refine (uh HSu _ hk.bel).mono ?_
  rintro r V7 ⟨rfl, hb⟩
  replace hk := (hk.below hb).al (.cells (stA b0 b1 b2 b3 b4 b5 b6 b7) 67)
  clear hb t0 t1 u0 u1 u2 u3 HSu
  go_upto_region 9 with fail
  generalize V7.heap.size = y at *
  obtain ⟨V8, e8⟩ := hk.w
  rw [e8] at hk ⊢
  clear e8
  obtain ⟨t0, t1⟩ := bx2 (hk.has (b, .cells #[.slice a n cap, .int .i64 now] 24) (by simp))
  obtain ⟨u0, u1, u2, u3⟩ := bx4 (hk.has (c, .cells #[.int .i64 u, .int .i64 g, .int .i64 mk, .int .i64 dr] 32) (by simp))
  go_wp2_with fail
  refine (uh HDo _ hk.bel).mono ?_
  rintro r V9 ⟨⟨v, rfl, hot⟩, hb⟩
  obtain ⟨ra, rc, rfl, hrg⟩ := hot.ng
  replace hk := (hk.below hb).al (.cells #[.slice ra R.1.1.length rc, .int .i64 R.1.2] 24)
  replace hrg := hrg.below (al_below V9 (.cells #[.slice ra R.1.1.length rc, .int .i64 R.1.2] 24))
  obtain ⟨rn, hrn⟩ : ∃ rn, rn = R.1.1.length := ⟨_, rfl⟩
  obtain ⟨rw1, hrw1⟩ : ∃ q, q = R.1.2 := ⟨_, rfl⟩
  obtain ⟨rh, hrh⟩ : ∃ q, q = R.2 := ⟨_, rfl⟩
  rw [← hrn, ← hrw1] at hk hrg
  rw [← hrn, ← hrw1, ← hrh]
  have HRg := hide hrg
  have HRh := hide hrh
  have HRw1 := hide hrw1
  clear hb t0 t1 u0 u1 u2 u3 HDo hot hrn hrw1 hrh hrg
  go_upto_region 10 with fail
  generalize V9.heap.size = z at *
  obtain ⟨VA, eA⟩ := hk.w
  rw [eA] at hk HRg ⊢
  clear eA
  by_cases h0 : rh = 0
  case neg =>
    have h0' : (rh != 0) = true := by simp [h0]
    go_wp2_with fail
    refine (uh HLv _ hk.bel).mono ?_
    rintro r V4 ⟨rfl, hb⟩
    have HB := hide (hk.below hb).bel
    clear hb
    go_wp2
    go_ret
    exact ⟨rfl, uh HB⟩
  subst h0
  have hok : (doP now ns ⟨8, s, t, 0, 0, 0, 0, [], ⟨u, g, mk, dr⟩⟩).2 = 0 := by rw [← uh HR, ← uh HRh]
  have hsm : Sm R.1.1 := by rw [uh HR]; exact sm_of (move_chk hok)
  obtain ⟨-, hnow, -⟩ := move_ok (uh hz1).symm (uh hz2).symm hok
  rw [← uh HR, ← uh HRw1] at hnow
  obtain rfl : now = rw1 := hnow.symm
  obtain ⟨c0, c1, c2, c3, c4, c5, c6, c7, ec1, hc⟩ := cstat_form now R.1.1 ⟨u, g, mk, dr⟩ t false
  obtain ⟨d0, d1, d2, d3, d4, d5, d6, d7, ed1, hd⟩ := cstat_form now R.1.1 ⟨u, g, mk, dr⟩ s false
  have hsay := move_say (e := ⟨u, g, mk, dr⟩) (uh hz1).symm (uh hz2).symm (uh HA) (uh HB1) hok (by rw [← uh HR]; exact hc)
  rw [← uh HR, ← uh HF, ← uh HJ] at hsay
  have HSu := hide (fun W (hW : Below VA.heap.size VA W) => cstat_any ra rn rc now R.1.1 ⟨u, g, mk, dr⟩ t false W ((uh HRg).below hW) hsm (by omega))
  have HSt := hide (fun W (hW : Below VA.heap.size VA W) => cstat_any ra rn rc now R.1.1 ⟨u, g, mk, dr⟩ s false W ((uh HRg).below hW) hsm (by omega))
  rw [ec1] at HSu
  rw [ed1] at HSt
  obtain ⟨k, hk1⟩ : ∃ q, q = (lookP now R.1.1 ⟨u, g, mk, dr⟩ t false).2 := ⟨_, rfl⟩
  obtain ⟨l, hl1⟩ : ∃ q, q = (lookP now R.1.1 ⟨u, g, mk, dr⟩ s false).2 := ⟨_, rfl⟩
  rw [← hk1, ← hl1] at hsay
  rw [← hk1] at HSu
  rw [← hl1] at HSt
  obtain ⟨s1, s2, s3, s4, s5, s6, s7, hor⟩ := hsay
  obtain rfl : f = 0 := s1
  obtain rfl : k = 0 := s2
  have n0 : (c0 != a0) = false := by rw [s3]; simp
  have n1 : (c1 != a1) = false := by rw [s4]; simp
  have n6 : (c6 != a6) = false := by rw [s5]; simp
  have n2 : (c2 != a2) = false := by rw [s6]; simp
  have n5 : (c5 != a5) = false := by rw [s7]; simp
  have HOr := hide hor
  have hq : Below VA.heap.size VA VA := Below.refl _ _
  clear hok hsm hc hd ec1 ed1 hk1 hl1 hor s3 s4 s5 s6 s7
  obtain ⟨t0, t1⟩ := bx2 (hk.has (z, .cells #[.slice ra rn rc, .int .i64 now] 24) (by simp))
  obtain ⟨u0, u1, u2, u3⟩ := bx4 (hk.has (c, .cells #[.int .i64 u, .int .i64 g, .int .i64 mk, .int .i64 dr] 32) (by simp))
  go_wp2_with fail
  refine (uh HSu _ hq).mono ?_
  rintro r VB ⟨rfl, hb⟩
  replace hk := (hk.below hb).al (.cells (stA c0 c1 c2 c3 c4 c5 c6 c7) 67)
  replace hq := (hq.trans (hb.mono hq.size)).trans ((al_below VB (.cells (stA c0 c1 c2 c3 c4 c5 c6 c7) 67)).mono (Nat.le_trans hq.size hb.size))
  clear hb t0 t1 u0 u1 u2 u3 HSu
  go_upto_region 13 with fail
  generalize VB.heap.size = p at *
  obtain ⟨VC, eC⟩ := hk.w
  rw [eC] at hk hq ⊢
  clear eC
  obtain ⟨t0, t1⟩ := bx2 (hk.has (z, .cells #[.slice ra rn rc, .int .i64 now] 24) (by simp))
  obtain ⟨u0, u1, u2, u3⟩ := bx4 (hk.has (c, .cells #[.int .i64 u, .int .i64 g, .int .i64 mk, .int .i64 dr] 32) (by simp))
  go_wp2_with fail
  refine (uh HSt _ hq).mono ?_
  rintro r VD ⟨rfl, hb⟩
  replace hk := (hk.below hb).al (.cells (stA d0 d1 d2 d3 d4 d5 d6 d7) 67)
  clear hb t0 t1 u0 u1 u2 u3 HSt hq
  go_upto_region 14 with fail
  generalize VD.heap.size = o at *
  obtain ⟨VE, eE⟩ := hk.w
  rw [eE] at hk ⊢
  clear eE
  obtain ⟨i0, i1, i2, i3, i4, i5, i6, i7⟩ := bx8 (hk.has (x, .cells (stA a0 a1 a2 a3 a4 a5 a6 a7) 67) (by simp))
  obtain ⟨k0, k1, k2, k3, k4, k5, k6, k7⟩ := bx8 (hk.has (y, .cells (stA b0 b1 b2 b3 b4 b5 b6 b7) 67) (by simp))
  obtain ⟨m0, m1, m2, m3, m4, m5, m6, m7⟩ := bx8 (hk.has (p, .cells (stA c0 c1 c2 c3 c4 c5 c6 c7) 67) (by simp))
  have HEnd := hide (fun V (hb : Below VE.heap.size VE V) => (hk.below hb).bel)
  have HLE := hide (uh HLv _ hk.bel)
  clear HLv HRg HG HRw HS HA HB1 HF HJ HR HRh HRw1 hz1 hz2 hk
  by_cases hj0 : j = 0
  · subst hj0
    by_cases hab : a0 = b0
    · have hab' : (a0 == b0) = true := by simp [hab]
      clear hab HOr
      go_wp2_with fail
      refine (uh HLE).mono ?_
      rintro r VF ⟨rfl, hb⟩
      have HB := hide (uh HEnd _ hb)
      clear hb
      go_wp2
      go_ret
      exact ⟨rfl, uh HB⟩
    · have hab' : (a0 == b0) = false := by simp [hab]
      have hl : l ≠ 0 := (uh HOr).resolve_left fun q => hab q.2
      have hl' : (l != 0) = true := by simp [hl]
      clear hab HOr hl
      go_wp2_with fail
      refine (uh HLE).mono ?_
      rintro r VF ⟨rfl, hb⟩
      have HB := hide (uh HEnd _ hb)
      clear hb
      go_wp2
      go_ret
      exact ⟨rfl, uh HB⟩
  · have hj' : (j == 0) = false := by simp [hj0]
    have hl : l ≠ 0 := (uh HOr).resolve_left fun q => hj0 q.1
    have hl' : (l != 0) = true := by simp [hl]
    clear hj0 HOr hl
    go_wp2_with fail
    refine (uh HLE).mono ?_
    rintro r VF ⟨rfl, hb⟩
    have HB := hide (uh HEnd _ hb)
    clear hb
    go_wp2
    go_ret
    exact ⟨rfl, uh HB⟩
end Go.Proofs.YtidhceebafmlkaaGreatDoor.Ca

namespace Go.Proofs.YtidhceebafmlkaaGreatDoor.Ca
open Go.ChangeShapes Go.WideShapes Go.ChangeAt Go.RowKit Go.Deep
set_option maxRecDepth 100000 in
theorem cellsM : Tryz.prog.cellsOf 87 = 8 := by kernel_rfl
set_option maxRecDepth 100000 in
theorem open_moving {H : Type} {enc : TypeId × Value → H} {W : World} {base : Nat} {spare : Nat → Bool} {held : Bool} {r : Reach} {b0 : Nat} {v : Value} {d : DataW H} {p : List MemPlace}
    (hval : Value.okWide Tryz.prog W r b0 87 v) (h : DataW.Trod enc Tryz.prog W base spare held 87 v d p) (hz : ∀ n ∈ d.weights Tryz.prog 87, n ≤ reachBytes) :
    ∃ (a : Option Addr) (n cap : Nat) (now : Int) (ns : List Tr.Nd) (e : Pm.Ev) (s : ByteArray) (fo : ByteArray), v = .agg (mvA a n cap now e s fo) ∧ Tr.Ng W a n cap ns ∧ n ≤ 281474976710656 ∧ (∀ i, i < n → Tr.Rb (Tr.nd ns i)) ∧ s.size ≤ reachBytes ∧ fo.size ≤ reachBytes := by
  obtain ⟨cs, rfl, hsz⟩ := okWide_struct Tryz.underlying87 hval
  rw [cellsM] at hsz
  obtain ⟨fuel, hf⟩ := h
  simp only [Value.cells] at hf
  have hs8 : cs.toList.length = 8 := by simpa using hsz
  obtain ⟨c0, c1, c2, c3, c4, c5, c6, c7, hcs⟩ : ∃ c0 c1 c2 c3 c4 c5 c6 c7, cs.toList = [c0, c1, c2, c3, c4, c5, c6, c7] := by
    match e : cs.toList, hs8 with
    | [c0, c1, c2, c3, c4, c5, c6, c7], _ => exact ⟨c0, c1, c2, c3, c4, c5, c6, c7, rfl⟩
  rw [hcs] at hf
  obtain ⟨xs, n, _, hx, hl, hlen, hfl⟩ := DataW.trod_struct Tryz.underlying87 hf
  match xs, hlen with
  | [y0, y1, y2, y3], _ =>
    have h0 := hfl 0 _ rfl
    have h1 := hfl 1 _ rfl
    have h2 := hfl 2 _ rfl
    have h3 := hfl 3 _ rfl
    simp [Pt.cellsT, Pm.cellsE, Pt.cellsS] at h0 h1 h2 h3
    injection hx with hx1 hx2
    obtain ⟨a, len, cap, now, ns, rfl, rfl, hng, hn, hrb⟩ := Pt.open_tcells h0 (fun k hk => hz k (by
      rw [hx1]; simp only [DataW.weights, Tryz.underlying87, DataW.weightsEach, List.map_cons, List.mem_append]; simp [hk]))
    obtain ⟨e, he⟩ := Pm.open_cells (by rfl) h1
    obtain ⟨s, e2, hy2, _⟩ := DataW.trod_string Tryz.underlying9 h2
    obtain ⟨fo, e3, hy3, _⟩ := DataW.trod_string Tryz.underlying9 h3
    simp at he e2 e3
    obtain ⟨rfl, rfl, rfl, rfl⟩ := he
    subst e2 e3
    refine ⟨a, len, cap, now, ns, e, s, fo, ?_, hng, hn, hrb, ?_, ?_⟩
    · congr 1
      apply Array.toList_inj.1
      exact hcs
    · exact hz s.data.toList.length (by
        rw [hx1, hy2]; simp [DataW.weights, DataW.weightsEach, Tryz.underlying87])
    · exact hz fo.data.toList.length (by
        rw [hx1, hy3]; simp [DataW.weights, DataW.weightsEach, Tryz.underlying87])
end Go.Proofs.YtidhceebafmlkaaGreatDoor.Ca

namespace Go.Proofs.YtidhceebafmlkaaGreatDoor.Ca
open Go.RowKit Cu Tr Pm Pt
theorem laid_mem' {P : Program} {w : World} {n : String} {d : DataW Unit} : ∀ {l : List (String × DataW Unit)} {ps : List MemPlace}, DataW.LaidVars P w l ps → (n, d) ∈ l →
    ∃ g t cs fuel p, P.globalNamed n = some g ∧ (P.globals[g]?).map (·.type) = some t ∧ w.var? P n = some cs ∧ DataW.trod (fun _ => ()) P w 0 (fun _ => true) false fuel t cs.toList = some (d, p)
  | [], _, _, h => by simp at h
  | (n', d') :: r, ps, h, hm => by
    obtain ⟨g, t, cs, fuel, p, q, h1, h2, h3, h4, h5, _⟩ := h
    rcases List.mem_cons.1 hm with e | hm
    · cases e
      exact ⟨g, t, cs, fuel, p, h1, h2, h3, h4⟩
    · exact laid_mem' h5 hm
theorem one_at {cs : List Value} {i k : Nat} {v : Value} (h : (((cs.drop i).take k)) = [v]) : cs[i]? = some v := by
  have q := congrArg (·[0]?) h
  rw [List.getElem?_take] at q
  split at q
  · simpa using q
  · simp at q
theorem cell_lt {W : World} {g i : Nat} {v : Value} (h : W.cell? ⟨g, i, none⟩ = some v) : g < W.heap.size := by
  refine Decidable.byContradiction fun q => ?_
  have e : W.heap[g]? = none := Array.getElem?_eq_none (by omega)
  simp [World.cell?, e] at h
def rowsD : DataW Unit := .agg ((List.range 13).map fun k => .agg [.lit (.int .i64 ((rowOf (UInt8.ofNat k)).1 : Nat)), .lit (.bool (rowOf (UInt8.ofNat k)).2.1), .lit (.bool (rowOf (UInt8.ofNat k)).2.2)])
theorem rowsG : Tryz.prog.globalNamed "toolchest/calls.rows" = some 1 := by kernel_rfl
theorem rowsTy : (Tryz.prog.globals[(1 : Nat)]?).map (·.type) = some 133 := by kernel_rfl
theorem rowsC : Tryz.prog.cellsOf 132 = 3 ∧ Tryz.prog.cellsOf 3 = 1 ∧ Tryz.prog.cellsOf 4 = 1 := ⟨by kernel_rfl, by kernel_rfl, by kernel_rfl⟩
theorem sub_at {cs : List Value} {i j : Nat} {v : Value} (hj : j < 3) (h : ((((cs.drop i).take 3).drop j).take 1) = [v]) : cs[i + j]? = some v := by
  have q := one_at h
  rw [List.getElem?_take, if_pos hj, List.getElem?_drop] at q
  exact q
theorem rw_of {W : World} {l : List (String × DataW Unit)} {ps : List MemPlace} (h : DataW.LaidVars Tryz.prog W l ps) (hm : ("toolchest/calls.rows", rowsD) ∈ l) : Rw W := by
  obtain ⟨g, t, cs, fuel, p, h1, h2, h3, h4⟩ := laid_mem' h hm
  obtain rfl := Option.some.inj (h1.symm.trans rowsG)
  obtain rfl := Option.some.inj (h2.symm.trans rowsTy)
  obtain ⟨xs, m, -, hx, -, hlen, hf⟩ := DataW.trod_array Tryz.underlying133 h4
  have key : ∀ k : Nat, k < 13 → W.cell? ⟨1, k * 3, none⟩ = some (.int .i64 ((rowOf (UInt8.ofNat k)).1 : Nat)) ∧ W.cell? ⟨1, k * 3 + 1, none⟩ = some (.bool (rowOf (UInt8.ofNat k)).2.1) ∧ W.cell? ⟨1, k * 3 + 2, none⟩ = some (.bool (rowOf (UInt8.ofNat k)).2.2) := by
    intro k hk
    have hf := hf k hk
    rw [rowsC.1, List.getElem?_eq_getElem (by omega)] at hf
    have e3 : (xs.map (·.1))[k]? = ((List.range 13).map fun k => (.agg [.lit (.int .i64 ((rowOf (UInt8.ofNat k)).1 : Nat)), .lit (.bool (rowOf (UInt8.ofNat k)).2.1), .lit (.bool (rowOf (UInt8.ofNat k)).2.2)] : DataW Unit))[k]? := by
      have := congrArg Prod.fst hx
      unfold rowsD at this
      injection this with this
      rw [← this]
    rw [List.getElem?_map, List.getElem?_map, List.getElem?_eq_getElem (by omega : k < xs.length), List.getElem?_eq_getElem (by simpa using hk), List.getElem_range] at e3
    simp only [Option.map_some, Option.some.injEq] at e3
    obtain ⟨ys, n, -, hy, -, hlen3, hf3⟩ := DataW.trod_struct Tryz.underlying132 hf
    rw [hy] at e3
    injection e3 with e3
    have hl3 : ys.length = 3 := hlen3
    match ys, hl3 with
    | [y0, y1, y2], _ =>
    simp only [List.map_cons, List.map_nil, List.cons.injEq, and_true] at e3
    obtain ⟨a0, a1, a2⟩ := e3
    have f0 : DataW.trod (fun _ => ()) Tryz.prog W 0 (fun _ => true) false n 3 ((((cs.toList.drop (k * 3)).take 3).drop 0).take (Tryz.prog.cellsOf 3)) = some y0 := hf3 0 _ rfl
    have f1 : DataW.trod (fun _ => ()) Tryz.prog W 0 (fun _ => true) false n 4 ((((cs.toList.drop (k * 3)).take 3).drop 1).take (Tryz.prog.cellsOf 4)) = some y1 := hf3 1 _ rfl
    have f2 : DataW.trod (fun _ => ()) Tryz.prog W 0 (fun _ => true) false n 4 ((((cs.toList.drop (k * 3)).take 3).drop 2).take (Tryz.prog.cellsOf 4)) = some y2 := hf3 2 _ rfl
    rw [rowsC.2.1] at f0
    rw [rowsC.2.2] at f1 f2
    obtain ⟨z, b0, c0, -⟩ := DataW.trod_int Tryz.underlying3 f0
    obtain ⟨z1, b1, c1⟩ := DataW.trod_bool Tryz.underlying4 f1
    obtain ⟨z2, b2, c2⟩ := DataW.trod_bool Tryz.underlying4 f2
    rw [c0] at a0
    rw [c1] at a1
    rw [c2] at a2
    simp only [DataW.lit.injEq, Lit.int.injEq, Lit.bool.injEq, true_and] at a0 a1 a2
    have hc := fun i => World.var?_cell rowsG h3 i
    refine ⟨?_, ?_, ?_⟩
    · rw [hc, ← a0]; have := sub_at (i := k * 3) (j := 0) (by decide) b0; rwa [Array.getElem?_toList, Nat.add_zero] at this
    · rw [hc, ← a1]; have := sub_at (i := k * 3) (j := 1) (by decide) b1; rwa [Array.getElem?_toList] at this
    · rw [hc, ← a2]; have := sub_at (i := k * 3) (j := 2) (by decide) b2; rwa [Array.getElem?_toList] at this
  refine ⟨cell_lt (key 0 (by decide)).1, fun k hk => ?_⟩
  have := key k.toNat hk
  rwa [UInt8.ofNat_toNat] at this
theorem rw_of_laid {W : World} {l : List (String × DataW Unit)} (h : laidMetH Tryz.prog l W) (hp : (l.all fun x => x.2.handleName?.isNone) = true) (hm : ("toolchest/calls.rows", rowsD) ∈ l) : Rw W := by
  rw [Go.MakeChecks.laidMetH_plain _ _ _ hp] at h
  obtain ⟨ps, h, _⟩ := h
  exact rw_of h hm
end Go.Proofs.YtidhceebafmlkaaGreatDoor.Ca
