/- What a walk asks of a step. -/
import Derived.Test.YtbajjbgeohbdjaaWkPlain
import Derived.Test.YtbajjbgeohbdjaaPtStrW
import Derived.Deep.RegionHeld3
namespace Go.Proofs.Ytbajjbgeohbdjaa.Wk
open Go.RowKit Go.Proofs.Ytbajjbgeohbdjaa.Cu Go.Proofs.Ytbajjbgeohbdjaa.Tr Go.Proofs.Ytbajjbgeohbdjaa.Pm Go.Proofs.Ytbajjbgeohbdjaa.Pt

abbrev tyT : TypeId := 55
abbrev tyS : TypeId := 37
abbrev ta (a : Option Addr) (n cap : Nat) (e : Ev) (deep : Int) : Array Value := #[.slice a n cap, .int .i64 e.user, .int .i64 e.group, .int .i64 e.mask, .int .i64 e.dir, .int .i64 deep]
abbrev sa (s : Sp) : Array Value := #[.string s.path, .int .i64 s.node, .int .i64 s.depth, .bool s.after]
/-- two boxes, the second behind the first -/
theorem two_new (w : World) (x y : Array Value) (t u : TypeId) : ((w.alloc (.cells x t)).alloc (.cells y u)).heap[w.heap.size]? = some (.cells x t) ∧ ((w.alloc (.cells x t)).alloc (.cells y u)).heap[w.heap.size + 1]? = some (.cells y u) ∧ Below w.heap.size w ((w.alloc (.cells x t)).alloc (.cells y u)) ∧ ((w.alloc (.cells x t)).alloc (.cells y u)).heap.size = w.heap.size + 2 := by
  refine ⟨?_, ?_, ((Below.refl _ w).alloc (Nat.le_refl _) _).alloc (by simp) _, by simp⟩
  · exact (Below.heap_alloc _ _ _ (by simp)).trans (heap_alloc_new w _)
  · have := heap_alloc_new (w.alloc (.cells x t)) (.cells y u)
    rwa [World.size_alloc] at this
set_option maxRecDepth 100000 in
set_option maxHeartbeats 1000000 in
theorem isNear_any (a : Option Addr) (n cap : Nat) (e : Ev) (deep : Int) (s : Sp) (w : World) :
    Calls Try.prog 35 #[.agg (ta a n cap e deep), .agg (sa s)] w fun r w' => r = .returned (.bool (decide (s.depth < deep))) ∧ Below w.heap.size w w' := by
  have hB := hide (two_new w (ta a n cap e deep) (sa s) tyT tyS).2.2.1
  go_enter Try.func35, Try.ntmps35
  go_wp2
  go_ret
  exact ⟨rfl, unhide hB⟩
set_option maxRecDepth 100000 in
set_option maxHeartbeats 1000000 in
theorem isDir_any (a : Option Addr) (n cap : Nat) (ns : List Nd) (e : Ev) (deep : Int) (p : ByteArray) (k : Nat) (d : Int) (q : Bool) (w : World) (hg : Ng w a n cap ns) (hk : k < n) :
    Calls Try.prog 32 #[.agg (ta a n cap e deep), .agg (sa ⟨p, k, d, q⟩)] w fun r w' => r = .returned (.bool (decide ((nd ns k).kind = 2))) ∧ Below w.heap.size w w' := by
  have hB := hide (two_new w (ta a n cap e deep) (sa ⟨p, k, d, q⟩) tyT tyS).2.2.1
  rcases hg.cells with h0 | ⟨b, off, rfl, hb, hc⟩
  · omega
  obtain ⟨_, _, _, _, h10, -, -⟩ := hc k hk
  have c0 := h10.c0
  have hk' : (k : Int) < (n : Int) := by omega
  rw [← kd 2]
  clear h10 hc hg
  generalize (nd ns k).kind = kd at *
  go_enter Try.func32, Try.ntmps32
  go_wp2
  go_ret
  exact ⟨rfl, unhide hB⟩
/-- the two boxes and what is below them -/
structure Bx2 (w W : World) (x y : Array Value) : Prop where
  below : Below w.heap.size w W
  b0 : W.heap[w.heap.size]? = some (.cells x tyT)
  b1 : W.heap[w.heap.size + 1]? = some (.cells y tyS)
theorem Bx2.new (w : World) (x y : Array Value) : Bx2 w ((w.alloc (.cells x tyT)).alloc (.cells y tyS)) x y :=
  ⟨(two_new w x y tyT tyS).2.2.1, (two_new w x y tyT tyS).1, (two_new w x y tyT tyS).2.1⟩
theorem Bx2.step {w W W' : World} {x y : Array Value} (h : Bx2 w W x y) (hb : Below W.heap.size W W') : Bx2 w W' x y :=
  ⟨h.below.trans (hb.mono h.below.size), (hb.block _ (Array.getElem?_eq_some_iff.1 h.b0).1).trans h.b0, (hb.block _ (Array.getElem?_eq_some_iff.1 h.b1).1).trans h.b1⟩
theorem Bx2.drew {w W : World} {x y : Array Value} (h : Bx2 w W x y) : Bx2 w W.drew x y := ⟨⟨h.below.os, h.below.tape, h.below.output, h.below.size, h.below.block⟩, h.b0, h.b1⟩
theorem Bx2.drewN {w W : World} {x y : Array Value} (h : Bx2 w W x y) (q : Nat) : Bx2 w (W.drewN q) x y := ⟨⟨h.below.os, h.below.tape, h.below.output, h.below.size, h.below.block⟩, h.b0, h.b1⟩
theorem Bx2.cells {w W : World} {t0 t1 t2 t3 t4 t5 s0 s1 s2 s3 : Value} (h : Bx2 w W #[t0, t1, t2, t3, t4, t5] #[s0, s1, s2, s3]) :
    (W.cell? ⟨w.heap.size, 0, none⟩ = some t0 ∧ W.cell? ⟨w.heap.size, 1, none⟩ = some t1 ∧ W.cell? ⟨w.heap.size, 2, none⟩ = some t2 ∧ W.cell? ⟨w.heap.size, 3, none⟩ = some t3 ∧ W.cell? ⟨w.heap.size, 4, none⟩ = some t4 ∧ W.cell? ⟨w.heap.size, 5, none⟩ = some t5) ∧
    W.cell? ⟨w.heap.size + 1, 0, none⟩ = some s0 ∧ W.cell? ⟨w.heap.size + 1, 1, none⟩ = some s1 ∧ W.cell? ⟨w.heap.size + 1, 2, none⟩ = some s2 ∧ W.cell? ⟨w.heap.size + 1, 3, none⟩ = some s3 := by
  refine ⟨⟨?_, ?_, ?_, ?_, ?_, ?_⟩, ?_, ?_, ?_, ?_⟩ <;> first | (rw [cell_of_row _ _ _ _ _ _ h.b0]; rfl) | (rw [cell_of_row _ _ _ _ _ _ h.b1]; rfl)
set_option maxRecDepth 100000 in
set_option maxHeartbeats 1000000 in
theorem mayEnter_any (a : Option Addr) (n cap : Nat) (ns : List Nd) (e : Ev) (deep : Int) (p : ByteArray) (k : Nat) (d : Int) (q : Bool) (w : World) (hg : Ng w a n cap ns) (hk : k < n) :
    Calls Try.prog 36 #[.agg (ta a n cap e deep), .agg (sa ⟨p, k, d, q⟩)] w fun r w' => r = .returned (.bool (mayP (nd ns k) e 5)) ∧ Below w.heap.size w w' := by
  have K0 := hide (Bx2.new w (ta a n cap e deep) (sa ⟨p, k, d, q⟩))
  rcases hg.cells with h0 | ⟨b, off, rfl, hb, hc⟩
  · omega
  obtain ⟨da, dc, la, lc, h10, -, -⟩ := hc k hk
  have HM : Hid (∀ W, Calls Try.prog 52 #[.agg (na (nd ns k) (.slice da (nd ns k).data.length dc) (.slice la (nd ns k).list.length lc)), .agg (ea e), .int .i64 5] W fun r w' => r = .returned (.bool (mayP (nd ns k) e 5)) ∧ Below W.heap.size W w') := fun W => may_any _ _ _ e 5 W
  obtain ⟨q0, q1, q2, q3, q4, q5, q6, q7, q8, q9⟩ := h10
  have hk' : (k : Int) < (n : Int) := by omega
  generalize mayP (nd ns k) e 5 = M at *
  generalize (nd ns k).data.length = dl at *
  generalize (nd ns k).list.length = ll at *
  clear hc hg
  generalize nd ns k = x at *
  obtain ⟨kd, md, us, gr, lk, ti, dt, tg, ls, pa⟩ := x
  obtain ⟨u, g, mk, dr⟩ := e
  unfold na ea at HM
  simp only at HM q0 q1 q2 q3 q4 q5 q6 q7 q8 q9
  go_enter Try.func36, Try.ntmps36
  go_wp2_with fail
  obtain ⟨W1, hW1⟩ : ∃ W1, W1 = (w.alloc (.cells (ta (some ⟨b, off, none⟩) n cap ⟨u, g, mk, dr⟩ deep) tyT)).alloc (.cells (sa ⟨p, k, d, q⟩) tyS) := ⟨_, rfl⟩
  have K1 := K0
  rw [← hW1] at K1 ⊢
  obtain ⟨N, hN⟩ : ∃ N, N = w.heap.size := ⟨_, rfl⟩
  have hS : W1.drew.cell? ⟨N, 0, none⟩ = some (.slice (some ⟨b, off, none⟩) n cap) ∧ W1.drew.cell? ⟨N, 1, none⟩ = some (.int .i64 u) ∧ W1.drew.cell? ⟨N, 2, none⟩ = some (.int .i64 g) ∧ W1.drew.cell? ⟨N, 3, none⟩ = some (.int .i64 mk) ∧ W1.drew.cell? ⟨N, 4, none⟩ = some (.int .i64 dr) ∧ W1.drew.cell? ⟨N + 1, 1, none⟩ = some (.int .i64 k) ∧ W1.drew.cell? ⟨b, off + k * 10, none⟩ = some (.int .u8 kd.toNat) ∧ W1.drew.cell? ⟨b, off + k * 10 + 1, none⟩ = some (.int .i64 md) ∧ W1.drew.cell? ⟨b, off + k * 10 + 2, none⟩ = some (.int .i64 us) ∧ W1.drew.cell? ⟨b, off + k * 10 + 3, none⟩ = some (.int .i64 gr) ∧ W1.drew.cell? ⟨b, off + k * 10 + 4, none⟩ = some (.int .i64 lk) ∧ W1.drew.cell? ⟨b, off + k * 10 + 5, none⟩ = some (.int .i64 ti) ∧ W1.drew.cell? ⟨b, off + k * 10 + 6, none⟩ = some (.slice da dl dc) ∧ W1.drew.cell? ⟨b, off + k * 10 + 7, none⟩ = some (.string tg) ∧ W1.drew.cell? ⟨b, off + k * 10 + 8, none⟩ = some (.slice la ll lc) ∧ W1.drew.cell? ⟨b, off + k * 10 + 9, none⟩ = some (.int .i64 pa) := by
    obtain ⟨⟨x0, x1, x2, x3, x4, -⟩, -, y1, -, -⟩ := (unhide K1).cells
    rw [hN]
    exact ⟨x0, x1, x2, x3, x4, y1, ((unhide K1).below.cell hb).trans q0, ((unhide K1).below.cell hb).trans q1, ((unhide K1).below.cell hb).trans q2, ((unhide K1).below.cell hb).trans q3, ((unhide K1).below.cell hb).trans q4, ((unhide K1).below.cell hb).trans q5, ((unhide K1).below.cell hb).trans q6, ((unhide K1).below.cell hb).trans q7, ((unhide K1).below.cell hb).trans q8, ((unhide K1).below.cell hb).trans q9⟩
  rw [← hN]
  have K1d := hide (unhide K1).drew
  have HKS : Hid (∀ W', Below W1.drew.heap.size W1.drew W' → W'.cell? ⟨N, 0, none⟩ = some (.slice (some ⟨b, off, none⟩) n cap) ∧ W'.cell? ⟨N, 1, none⟩ = some (.int .i64 u) ∧ W'.cell? ⟨N, 2, none⟩ = some (.int .i64 g) ∧ W'.cell? ⟨N, 3, none⟩ = some (.int .i64 mk) ∧ W'.cell? ⟨N, 4, none⟩ = some (.int .i64 dr) ∧ W'.cell? ⟨N + 1, 1, none⟩ = some (.int .i64 k) ∧ W'.cell? ⟨b, off + k * 10, none⟩ = some (.int .u8 kd.toNat) ∧ W'.cell? ⟨b, off + k * 10 + 1, none⟩ = some (.int .i64 md) ∧ W'.cell? ⟨b, off + k * 10 + 2, none⟩ = some (.int .i64 us) ∧ W'.cell? ⟨b, off + k * 10 + 3, none⟩ = some (.int .i64 gr) ∧ W'.cell? ⟨b, off + k * 10 + 4, none⟩ = some (.int .i64 lk) ∧ W'.cell? ⟨b, off + k * 10 + 5, none⟩ = some (.int .i64 ti) ∧ W'.cell? ⟨b, off + k * 10 + 6, none⟩ = some (.slice da dl dc) ∧ W'.cell? ⟨b, off + k * 10 + 7, none⟩ = some (.string tg) ∧ W'.cell? ⟨b, off + k * 10 + 8, none⟩ = some (.slice la ll lc) ∧ W'.cell? ⟨b, off + k * 10 + 9, none⟩ = some (.int .i64 pa)) := fun W' hW => by
    have hbn : b < W1.drew.heap.size := Nat.lt_of_lt_of_le hb (unhide K1).below.size
    obtain ⟨⟨x0, x1, x2, x3, x4, -⟩, -, y1, -, -⟩ := ((unhide K1d).step hW).cells
    obtain ⟨-, -, -, -, -, -, z0, z1, z2, z3, z4, z5, z6, z7, z8, z9⟩ := hS
    rw [hN]
    exact ⟨x0, x1, x2, x3, x4, y1, (hW.cell hbn).trans z0, (hW.cell hbn).trans z1, (hW.cell hbn).trans z2, (hW.cell hbn).trans z3, (hW.cell hbn).trans z4, (hW.cell hbn).trans z5, (hW.cell hbn).trans z6, (hW.cell hbn).trans z7, (hW.cell hbn).trans z8, (hW.cell hbn).trans z9⟩
  clear q0 q1 q2 q3 q4 q5 q6 q7 q8 q9 K0 hW1 hN
  go_region_held3 (fun w' => w'.cell? ⟨N, 0, none⟩ = some (.slice (some ⟨b, off, none⟩) n cap) ∧ w'.cell? ⟨N, 1, none⟩ = some (.int .i64 u) ∧ w'.cell? ⟨N, 2, none⟩ = some (.int .i64 g) ∧ w'.cell? ⟨N, 3, none⟩ = some (.int .i64 mk) ∧ w'.cell? ⟨N, 4, none⟩ = some (.int .i64 dr) ∧ w'.cell? ⟨N + 1, 1, none⟩ = some (.int .i64 k) ∧ w'.cell? ⟨b, off + k * 10, none⟩ = some (.int .u8 kd.toNat) ∧ w'.cell? ⟨b, off + k * 10 + 1, none⟩ = some (.int .i64 md) ∧ w'.cell? ⟨b, off + k * 10 + 2, none⟩ = some (.int .i64 us) ∧ w'.cell? ⟨b, off + k * 10 + 3, none⟩ = some (.int .i64 gr) ∧ w'.cell? ⟨b, off + k * 10 + 4, none⟩ = some (.int .i64 lk) ∧ w'.cell? ⟨b, off + k * 10 + 5, none⟩ = some (.int .i64 ti) ∧ w'.cell? ⟨b, off + k * 10 + 6, none⟩ = some (.slice da dl dc) ∧ w'.cell? ⟨b, off + k * 10 + 7, none⟩ = some (.string tg) ∧ w'.cell? ⟨b, off + k * 10 + 8, none⟩ = some (.slice la ll lc) ∧ w'.cell? ⟨b, off + k * 10 + 9, none⟩ = some (.int .i64 pa)) (with_reducible assumption)
    (first
      | ((with_reducible refine (unhide HM _).mono ?_); rintro r w3 ⟨rfl, hb3⟩; have K2 := hide ((unhide K1d).step hb3); have hS2 := unhide HKS _ hb3; clear hb3)
      | fail)
  clear HM hS hS2 HKS
  have hB := hide (unhide K2).below
  go_wp2
  go_ret
  exact ⟨rfl, unhide hB⟩
set_option maxRecDepth 100000 in
set_option maxHeartbeats 1000000 in
theorem listedW_any (a : Option Addr) (n cap : Nat) (ns : List Nd) (e : Ev) (deep : Int) (p : ByteArray) (k d : Nat) (q : Bool) (w0 w : World) (hg : Ng w0 a n cap ns) (hW0 : Below w0.heap.size w0 w) (hk : k < n) :
    Calls Try.prog 33 #[.agg (ta a n cap e deep), .agg (sa ⟨p, k, d, q⟩)] w fun r w' => (∃ la lc, r = .returned (.slice la (lsP ns e deep k d).length lc) ∧ Eg w0 la (lsP ns e deep k d).length lc (lsP ns e deep k d)) ∧ Below w.heap.size w w' := by
  have HP : Hid ((decide ((d : Int) < deep) = false → lsP ns e deep k d = []) ∧ (mayP (nd ns k) e 5 = false → lsP ns e deep k d = []) ∧ (decide ((d : Int) < deep) = true → mayP (nd ns k) e 5 = true → lsP ns e deep k d = (nd ns k).list)) := by
    unfold lsP enP
    refine ⟨fun h => ?_, fun h => ?_, fun h h' => ?_⟩
    · rw [h]; rfl
    · rw [h, Bool.and_false]; rfl
    · rw [h, h']; rfl
  have HD : Hid (∀ W, Calls Try.prog 35 #[.agg (ta a n cap e deep), .agg (sa ⟨p, k, d, q⟩)] W fun r w' => r = .returned (.bool (decide ((d : Int) < deep))) ∧ Below W.heap.size W w') := fun W => isNear_any a n cap e deep ⟨p, k, d, q⟩ W
  have HM : Hid (∀ W, Below w.heap.size w W → Calls Try.prog 36 #[.agg (ta a n cap e deep), .agg (sa ⟨p, k, d, q⟩)] W fun r w' => r = .returned (.bool (mayP (nd ns k) e 5)) ∧ Below W.heap.size W w') := fun W hW => mayEnter_any a n cap ns e deep p k d q W ((hg.below hW0).below hW) hk
  have K0 := hide (Bx2.new w (ta a n cap e deep) (sa ⟨p, k, d, q⟩))
  rcases hg.cells with h0 | ⟨b, off, rfl, hb0, hc⟩
  · omega
  have hb : b < w.heap.size := Nat.lt_of_lt_of_le hb0 hW0.size
  obtain ⟨da, dc, la, lc, h10, -, heg⟩ := hc k hk
  have c8 := (hW0.cell hb0).trans h10.c8
  have hk' : (k : Int) < (n : Int) := by omega
  have HE := hide heg
  have HC8 := hide c8
  clear c8
  generalize decide ((d : Int) < deep) = D at *
  generalize mayP (nd ns k) e 5 = M at *
  obtain ⟨L, hL⟩ : ∃ L, L = lsP ns e deep k d := ⟨_, rfl⟩
  rw [← hL] at HP ⊢
  obtain ⟨l0, hl0⟩ : ∃ l0, l0 = (nd ns k).list := ⟨_, rfl⟩
  rw [← hl0] at HP HE HC8
  clear hL hl0 h10 heg hc hg hW0
  obtain ⟨ll, hll⟩ : ∃ ll, ll = l0.length := ⟨_, rfl⟩
  rw [← hll] at HC8 HE
  have hll := hide hll
  go_enter Try.func33, Try.ntmps33
  go_wp2_with fail
  refine (unhide HD _).mono ?_
  rintro r w1 ⟨rfl, hb1⟩
  have K1 := hide ((unhide K0).step hb1)
  have nil : D = false ∨ M = false → L = [] := fun h => by
    rcases h with h | h
    · exact (unhide HP).1 h
    · exact (unhide HP).2.1 h
  have HN := hide nil
  obtain ⟨⟨x0, x1, x2, x3, x4, x5⟩, y0, y1, y2, y3⟩ := (unhide K1).cells
  clear hb1 K0 HD nil
  cases D with
  | false =>
    obtain rfl := unhide HN (.inl rfl)
    have hB := hide (unhide K1).below
    clear HM HP
    go_wp2_with fail
    go_ret
    exact ⟨⟨none, 0, rfl, ⟨rfl, Nat.le_refl _, fun _ => ⟨rfl, rfl⟩, .inl rfl⟩⟩, unhide hB⟩
  | true =>
  go_wp2_with fail
  refine (unhide HM _ (unhide K1).below).mono ?_
  rintro r w2 ⟨rfl, hb2⟩
  have K2 := hide ((unhide K1).step hb2)
  have hB := hide (unhide K2).below
  clear x0 x1 x2 x3 x4 x5 y0 y1 y2 y3 hb2 K1
  obtain ⟨⟨x0, -, -, -, -, -⟩, -, y1, -, -⟩ := (unhide K2).cells
  cases M with
  | false =>
    obtain rfl := unhide HN (.inr rfl)
    clear HM HP x0 y1
    go_wp2_with fail
    go_ret
    exact ⟨⟨none, 0, rfl, ⟨rfl, Nat.le_refl _, fun _ => ⟨rfl, rfl⟩, .inl rfl⟩⟩, unhide hB⟩
  | true =>
    obtain rfl := (unhide HP).2.2 (by trivial) (by trivial)
    have c8 := ((unhide hB).cell hb).trans (unhide HC8)
    clear HM HP HN K2
    go_wp2_with fail
    go_ret
    exact ⟨⟨la, lc, by rw [← unhide hll]; rfl, by rw [← unhide hll]; exact unhide HE⟩, unhide hB⟩
set_option maxRecDepth 100000 in
set_option maxHeartbeats 1000000 in
theorem isShut_any (a : Option Addr) (n cap : Nat) (ns : List Nd) (e : Ev) (deep : Int) (p : ByteArray) (k d : Nat) (q : Bool) (w : World) (hg : Ng w a n cap ns) (hk : k < n) :
    Calls Try.prog 15 #[.agg (ta a n cap e deep), .agg (sa ⟨p, k, d, q⟩)] w fun r w' => r = .returned (.bool (shP ns e deep ⟨p, k, d, q⟩)) ∧ Below w.heap.size w w' := by
  have HQ : Hid (shP ns e deep ⟨p, k, d, q⟩ = (!q && (decide ((nd ns k).kind = 2) && (decide ((d : Int) < deep) && !mayP (nd ns k) e 5)))) := rfl
  have HD : Hid (∀ W, Calls Try.prog 35 #[.agg (ta a n cap e deep), .agg (sa ⟨p, k, d, q⟩)] W fun r w' => r = .returned (.bool (decide ((d : Int) < deep))) ∧ Below W.heap.size W w') := fun W => isNear_any a n cap e deep ⟨p, k, d, q⟩ W
  have HI : Hid (∀ W, Below w.heap.size w W → Calls Try.prog 32 #[.agg (ta a n cap e deep), .agg (sa ⟨p, k, d, q⟩)] W fun r w' => r = .returned (.bool (decide ((nd ns k).kind = 2))) ∧ Below W.heap.size W w') := fun W hW => isDir_any a n cap ns e deep p k d q W (hg.below hW) hk
  have HM : Hid (∀ W, Below w.heap.size w W → Calls Try.prog 36 #[.agg (ta a n cap e deep), .agg (sa ⟨p, k, d, q⟩)] W fun r w' => r = .returned (.bool (mayP (nd ns k) e 5)) ∧ Below W.heap.size W w') := fun W hW => mayEnter_any a n cap ns e deep p k d q W (hg.below hW) hk
  have K0 := hide (Bx2.new w (ta a n cap e deep) (sa ⟨p, k, d, q⟩))
  generalize shP ns e deep ⟨p, k, d, q⟩ = Z at *
  generalize decide ((d : Int) < deep) = D at *
  generalize mayP (nd ns k) e 5 = M at *
  generalize decide ((nd ns k).kind = 2) = I at *
  clear hg
  go_enter Try.func15, Try.ntmps15
  cases q with
  | true =>
    obtain rfl := unhide HQ
    have hB := hide (unhide K0).below
    clear HD HI HM
    go_wp2_with fail
    go_ret
    exact ⟨rfl, unhide hB⟩
  | false =>
  go_wp2_with fail
  refine (unhide HI _ (unhide K0).below).mono ?_
  rintro r w1 ⟨rfl, hb1⟩
  have K1 := hide ((unhide K0).step hb1)
  have hB := hide (unhide K1).below
  obtain ⟨⟨x0, x1, x2, x3, x4, x5⟩, y0, y1, y2, y3⟩ := (unhide K1).cells
  clear hb1 K0
  cases I with
  | false =>
    obtain rfl := unhide HQ
    clear HD HI HM
    go_wp2_with fail
    go_ret
    exact ⟨rfl, unhide hB⟩
  | true =>
  go_wp2_with fail
  refine (unhide HD _).mono ?_
  rintro r w2 ⟨rfl, hb2⟩
  have K2 := hide ((unhide K1).step hb2)
  have hB := hide (unhide K2).below
  clear x0 x1 x2 x3 x4 x5 y0 y1 y2 y3
  obtain ⟨⟨x0, x1, x2, x3, x4, x5⟩, y0, y1, y2, y3⟩ := (unhide K2).cells
  clear hb2 K1
  cases D with
  | false =>
    obtain rfl := unhide HQ
    clear HD HI HM
    go_wp2_with fail
    go_ret
    exact ⟨rfl, unhide hB⟩
  | true =>
  go_wp2_with fail
  refine (unhide HM _ (unhide K2).below).mono ?_
  rintro r w3 ⟨rfl, hb3⟩
  have hB := hide ((unhide K2).step hb3).below
  clear x0 x1 x2 x3 x4 x5 y0 y1 y2 y3 hb3 K2
  obtain rfl := unhide HQ
  clear HD HI HM
  cases M <;>
  · go_wp2_with fail
    go_ret
    exact ⟨rfl, unhide hB⟩
/-- a row of four cells lies behind two boxes at N, and what lay in w lies as it lay -/
def Zs (w : World) (N : Nat) (W : World) : Prop := Below N w W ∧ ∃ x0 x1 x2 x3, W.heap[N + 2]? = some (.cells #[x0, x1, x2, x3] tyS)
theorem Zs.set {w : World} {N : Nat} {W : World} (h : Zs w N W) (j : Nat) (v : Value) : Zs w N (W.setCell ⟨N + 2, j, none⟩ v) := by
  obtain ⟨hb, x0, x1, x2, x3, h⟩ := h
  refine ⟨hb.setCell (p := ⟨N + 2, j, none⟩) (show N ≤ N + 2 by omega) _, ?_⟩
  have := heap_setCell_same _ _ j _ _ v h
  rcases j with _ | _ | _ | _ | j
  · exact ⟨_, _, _, _, this⟩
  · exact ⟨_, _, _, _, this⟩
  · exact ⟨_, _, _, _, this⟩
  · exact ⟨_, _, _, _, this⟩
  · exact ⟨_, _, _, _, this⟩
theorem Zs.four {w : World} {N : Nat} {W : World} (h : Zs w N W) (v0 v1 v2 v3 : Value) : Below N w ((((W.setCell ⟨N + 2, 0, none⟩ v0).setCell ⟨N + 2, 1, none⟩ v1).setCell ⟨N + 2, 2, none⟩ v2).setCell ⟨N + 2, 3, none⟩ v3) := ((((h.set 0 v0).set 1 v1).set 2 v2).set 3 v3).1
theorem Zs.look {w : World} {N : Nat} {W : World} (h : Zs w N W) : (∃ v, W.cell? ⟨N + 2, 0, none⟩ = some v) ∧ (∃ v, W.cell? ⟨N + 2, 1, none⟩ = some v) ∧ (∃ v, W.cell? ⟨N + 2, 2, none⟩ = some v) ∧ (∃ v, W.cell? ⟨N + 2, 3, none⟩ = some v) ∧
    W.frozen? ⟨N + 2, 0, none⟩ = false ∧ W.frozen? ⟨N + 2, 1, none⟩ = false ∧ W.frozen? ⟨N + 2, 2, none⟩ = false ∧ W.frozen? ⟨N + 2, 3, none⟩ = false := by
  obtain ⟨-, x0, x1, x2, x3, h⟩ := h
  refine ⟨⟨x0, ?_⟩, ⟨x1, ?_⟩, ⟨x2, ?_⟩, ⟨x3, ?_⟩, ?_, ?_, ?_, ?_⟩
  · rw [cell_of_row _ _ _ _ _ _ h]; rfl
  · rw [cell_of_row _ _ _ _ _ _ h]; rfl
  · rw [cell_of_row _ _ _ _ _ _ h]; rfl
  · rw [cell_of_row _ _ _ _ _ _ h]; rfl
  · simp [World.frozen?, h]
  · simp [World.frozen?, h]
  · simp [World.frozen?, h]
  · simp [World.frozen?, h]
set_option maxRecDepth 100000 in
set_option maxHeartbeats 1000000 in
theorem within_any (p nm : ByteArray) (k x : Int) (d : Nat) (q : Bool) (w : World) (hd : d ≤ 1000000) (hp : p.size ≤ 1000000000) (hn : nm.size ≤ 1000000000) :
    Calls Try.prog 34 #[.agg (sa ⟨p, k, d, q⟩), .agg #[.string nm, .int .i64 x]] w fun r w' => r = .returned (.agg (sa ⟨jnP p nm, x, (d : Int) + 1, false⟩)) ∧ Below w.heap.size w w' := by
  have HJ := hide (fun W => join_any p nm W hp hn)
  have e : tx (joinB (bs p) (bs nm)) = jnP p nm := rfl
  rw [e] at HJ
  generalize jnP p nm = J at *
  clear e hp hn
  go_enter Try.func34, Try.ntmps34
  go_wp2_with fail
  obtain ⟨W1, hW1⟩ : ∃ W1, W1 = (((w.alloc (.cells (sa ⟨p, k, d, q⟩) tyS)).alloc (.cells #[.string nm, .int .i64 x] 71)).alloc (.cells #[.string ⟨#[]⟩, .int .i64 0, .int .i64 0, .bool false] tyS)) := ⟨_, rfl⟩
  have hS : W1.drew.cell? ⟨w.heap.size, 0, none⟩ = some (.string p) ∧ W1.drew.cell? ⟨w.heap.size, 2, none⟩ = some (.int .i64 d) ∧ W1.drew.cell? ⟨w.heap.size + 1, 0, none⟩ = some (.string nm) ∧ W1.drew.cell? ⟨w.heap.size + 1, 1, none⟩ = some (.int .i64 x) ∧ Zs w w.heap.size W1.drew := by
    rw [hW1]
    have e1 := (two_new w (sa ⟨p, k, d, q⟩) #[.string nm, .int .i64 x] tyS 71).1
    have e2 := (two_new w (sa ⟨p, k, d, q⟩) #[.string nm, .int .i64 x] tyS 71).2.1
    have e3 : ∀ j, j < w.heap.size + 2 → (((w.alloc (.cells (sa ⟨p, k, d, q⟩) tyS)).alloc (.cells #[.string nm, .int .i64 x] 71)).alloc (.cells #[.string ⟨#[]⟩, .int .i64 0, .int .i64 0, .bool false] tyS)).heap[j]? = ((w.alloc (.cells (sa ⟨p, k, d, q⟩) tyS)).alloc (.cells #[.string nm, .int .i64 x] 71)).heap[j]? := fun j hj => Below.heap_alloc _ _ _ (by simp; omega)
    have h1 := (e3 w.heap.size (by omega)).trans e1
    have h2 := (e3 (w.heap.size + 1) (by omega)).trans e2
    refine ⟨?_, ?_, ?_, ?_, ?_⟩
    · exact (cell_of_row _ _ _ _ _ _ h1).trans rfl
    · exact (cell_of_row _ _ _ _ _ _ h1).trans rfl
    · exact (cell_of_row _ _ _ _ _ _ h2).trans rfl
    · exact (cell_of_row _ _ _ _ _ _ h2).trans rfl
    · have := heap_alloc_new ((w.alloc (.cells (sa ⟨p, k, d, q⟩) tyS)).alloc (.cells #[.string nm, .int .i64 x] 71)) (.cells #[.string ⟨#[]⟩, .int .i64 0, .int .i64 0, .bool false] tyS)
      rw [World.size_alloc, World.size_alloc] at this
      have hb : Below w.heap.size w (((w.alloc (.cells (sa ⟨p, k, d, q⟩) tyS)).alloc (.cells #[.string nm, .int .i64 x] 71)).alloc (.cells #[.string ⟨#[]⟩, .int .i64 0, .int .i64 0, .bool false] tyS)) := (((Below.refl _ w).alloc (Nat.le_refl _) _).alloc (by simp) _).alloc (by simp; omega) _
      exact ⟨⟨hb.os, hb.tape, hb.output, hb.size, hb.block⟩, _, _, _, _, this⟩
  rw [← hW1]
  obtain ⟨N, hN⟩ : ∃ N, N = w.heap.size := ⟨_, rfl⟩
  rw [← hN] at hS ⊢
  have HK : Hid (∀ (W' : World) (a0 a1 a2 a3 : Value), W'.cell? ⟨N, 0, none⟩ = some (.string p) ∧ W'.cell? ⟨N, 2, none⟩ = some (.int .i64 d) ∧ W'.cell? ⟨N + 1, 0, none⟩ = some (.string nm) ∧ W'.cell? ⟨N + 1, 1, none⟩ = some (.int .i64 x) ∧ Zs w N W' → ((((W'.setCell ⟨N + 2, 0, none⟩ a0).setCell ⟨N + 2, 1, none⟩ a1).setCell ⟨N + 2, 2, none⟩ a2).setCell ⟨N + 2, 3, none⟩ a3).cell? ⟨N, 0, none⟩ = some (.string p) ∧ ((((W'.setCell ⟨N + 2, 0, none⟩ a0).setCell ⟨N + 2, 1, none⟩ a1).setCell ⟨N + 2, 2, none⟩ a2).setCell ⟨N + 2, 3, none⟩ a3).cell? ⟨N, 2, none⟩ = some (.int .i64 d) ∧ ((((W'.setCell ⟨N + 2, 0, none⟩ a0).setCell ⟨N + 2, 1, none⟩ a1).setCell ⟨N + 2, 2, none⟩ a2).setCell ⟨N + 2, 3, none⟩ a3).cell? ⟨N + 1, 0, none⟩ = some (.string nm) ∧ ((((W'.setCell ⟨N + 2, 0, none⟩ a0).setCell ⟨N + 2, 1, none⟩ a1).setCell ⟨N + 2, 2, none⟩ a2).setCell ⟨N + 2, 3, none⟩ a3).cell? ⟨N + 1, 1, none⟩ = some (.int .i64 x) ∧ Zs w N ((((W'.setCell ⟨N + 2, 0, none⟩ a0).setCell ⟨N + 2, 1, none⟩ a1).setCell ⟨N + 2, 2, none⟩ a2).setCell ⟨N + 2, 3, none⟩ a3)) := fun W' a0 a1 a2 a3 h => by
    obtain ⟨h0, h1, h2, h3, hz⟩ := h
    refine ⟨?_, ?_, ?_, ?_, (((hz.set _ _).set _ _).set _ _).set _ _⟩ <;>
    · have e : ∀ (X : World) (j o : Nat) (v : Value) (b o' : Nat), b ≠ N + 2 → (X.setCell ⟨N + 2, o, none⟩ v).cell? ⟨b, o', none⟩ = X.cell? ⟨b, o', none⟩ := fun X _ o v b o' hb => by
        have e := heap_setCell_other X ⟨N + 2, o, none⟩ b v hb
        simp [World.cell?, e]
      rw [e _ 0 _ _ _ _ (by omega), e _ 0 _ _ _ _ (by omega), e _ 0 _ _ _ _ (by omega), e _ 0 _ _ _ _ (by omega)]
      assumption
  clear hW1
  replace hN := hide hN
  have HJ2 : Hid (∀ W, (W.cell? ⟨N, 0, none⟩ = some (.string p) ∧ W.cell? ⟨N, 2, none⟩ = some (.int .i64 d) ∧ W.cell? ⟨N + 1, 0, none⟩ = some (.string nm) ∧ W.cell? ⟨N + 1, 1, none⟩ = some (.int .i64 x) ∧ Zs w N W) → Calls Try.prog 51 #[.string p, .string nm] W fun e w' => e = .returned (.string J) ∧ (w'.cell? ⟨N, 0, none⟩ = some (.string p) ∧ w'.cell? ⟨N, 2, none⟩ = some (.int .i64 d) ∧ w'.cell? ⟨N + 1, 0, none⟩ = some (.string nm) ∧ w'.cell? ⟨N + 1, 1, none⟩ = some (.int .i64 x) ∧ Zs w N w')) := fun W h => (unhide HJ W).mono fun e w' q => ⟨q.1, by rw [q.2]; exact h⟩
  go_region_held3 (fun w' => w'.cell? ⟨N, 0, none⟩ = some (.string p) ∧ w'.cell? ⟨N, 2, none⟩ = some (.int .i64 d) ∧ w'.cell? ⟨N + 1, 0, none⟩ = some (.string nm) ∧ w'.cell? ⟨N + 1, 1, none⟩ = some (.int .i64 x) ∧ Zs w N w') (first | with_reducible assumption | with_reducible exact unhide HK _ _ _ _ _ hS3)
    (first
      | ((with_reducible refine (unhide HJ2 _ (by assumption)).mono ?_); rintro r w1 ⟨rfl, hS3⟩; obtain ⟨⟨z0, r0⟩, ⟨z1, r1⟩, ⟨z2, r2⟩, ⟨z3, r3⟩, f0, f1, f2, f3⟩ := hS3.2.2.2.2.look)
      | fail)
  have hZ := hide hS3.2.2.2.2
  clear HJ2 HJ hS HK hS3
  have g1 : IntKind.i64.wrap ((d : Int) + 1) = (d : Int) + 1 := by rw [IntWalk.i64_left]; unfold wrap64; omega
  go_wp2
  refine bodyPost_ret (v := .agg (sa ⟨J, x, (d : Int) + 1, false⟩)) (by simp [results, Try.results34, go_sem, r0, r1, r2, r3, g1]) rfl ⟨rfl, ?_⟩
  rw [← unhide hN]
  exact (unhide hZ).four _ _ _ _
theorem step_look {W : World} {b : Nat} {s : Sp} (h : W.heap[b]? = some (.cells (sa s) tyS)) :
    W.cell? ⟨b, 0, none⟩ = some (.string s.path) ∧ W.cell? ⟨b, 1, none⟩ = some (.int .i64 s.node) ∧ W.cell? ⟨b, 2, none⟩ = some (.int .i64 s.depth) ∧ W.cell? ⟨b, 3, none⟩ = some (.bool s.after) ∧ W.frozen? ⟨b, 3, none⟩ = false := by
  refine ⟨?_, ?_, ?_, ?_, ?_⟩
  · rw [cell_of_row _ _ _ _ _ _ h]; rfl
  · rw [cell_of_row _ _ _ _ _ _ h]; rfl
  · rw [cell_of_row _ _ _ _ _ _ h]; rfl
  · rw [cell_of_row _ _ _ _ _ _ h]; rfl
  · simp [World.frozen?, h]
end Go.Proofs.Ytbajjbgeohbdjaa.Wk
