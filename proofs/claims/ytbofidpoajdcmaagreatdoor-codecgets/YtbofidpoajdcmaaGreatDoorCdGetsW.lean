/- The law CodecGets: walked. -/
import Derived.Test.YtbofidpoajdcmaaGreatDoorBookB
import Derived.Test.YtbofidpoajdcmaaGreatDoorCdTwinO
import Derived.Test.YtbofidpoajdcmaaGreatDoorCdRGet2
import Derived.Test.YtbofidpoajdcmaaGreatDoorCdLives
import Derived.Deep.DeepCutAuto
import Derived.Deep.CutBlock
namespace Go.Proofs.YtbofidpoajdcmaaGreatDoor.Cd
open Go.RowKit Cu Tr

theorem aloof9 {w w' : World} {B1 B2 : Nat} {v1 v2 : Value} {l1 l2 : Bs} (h1 : Row B1 v1 l1 w) (_h2 : Row B2 v2 l2 w') (h : w.heap.size ≤ B2) : ∀ k, v1.ownBlock = some k → v2.ownBlock = some k → False := by
  intro k k1 k2
  have := (h1.lt k k1).2
  have := row_lo _h2 k k2
  omega
theorem two_given {B : Nat} {l r : Bs} {t a : Value} {w : World} (h0 : Row B t l w) (h1 : Row B a r w) (hTA : ∀ k, t.ownBlock = some k → a.ownBlock = some k → False) (hl : l.length ≤ 140737488351232) (hr : r.length ≤ 140737488351232) :
    Bk.Given B 5 1 [⟨t, 1, l.length, Lib.byteCells l⟩, ⟨a, 2, r.length, Lib.byteCells r⟩] w := by
  refine ⟨?_, ?_⟩
  · intro x hx
    simp only [List.mem_cons, List.not_mem_nil, or_false] at hx
    rcases hx with rfl | rfl
    · exact ⟨h0, by simp, hl⟩
    · exact ⟨h1, by simp, hr⟩
  · refine List.Pairwise.cons ?_ (List.Pairwise.cons ?_ List.Pairwise.nil)
    · intro x hx
      simp only [List.mem_cons, List.not_mem_nil, or_false] at hx
      subst hx
      exact hTA
    · intro x hx
      cases hx
theorem own_bel9 {w w' : World} {B : Nat} {e : TypeId} {z : Nat} {v : Value} {n : Nat} {xs : List Value} (h : w.ownsRow B e z v n xs) (hb : Below w.heap.size w w') : w'.ownsRow B e z v n xs := by
  refine ⟨h.1, ?_⟩
  rcases h.2 with h0 | ⟨g, c, cur, rfl, e1, e2, e3⟩
  · exact .inl h0
  · exact .inr ⟨g, c, cur, rfl, e1, (hb.block g (Array.getElem?_eq_some_iff.1 e2).1).trans e2, e3⟩
theorem bb_below9 {B P n : Nat} {LG : List Bk.Kept} {w w' : World} (h : Bk.BB B P n LG w) (hb : Below w.heap.size w w') : Bk.BB B P n LG w' := by
  obtain ⟨lo, hi, cur, uG, hO, h0, hj, h7, rG⟩ := h
  exact ⟨lo, Nat.le_trans hi hb.size, cur, uG, own_bel9 hO hb, h0, hj, h7, own_bel9 rG hb⟩
theorem kp_block {B : Nat} {w w' : World} {b : Nat} {c : Array Value} {e : TypeId} {f : Nat × Nat} (h : Bk.Kp B w w') (hb : w.heap[b]? = some (.cells c e f)) (he : ¬ (e = 49 ∨ e = 114)) : w'.heap[b]? = some (.cells c e f) := by
  obtain ⟨S, h1, h2, _⟩ := h
  refine (h1.block b (Array.getElem?_eq_some_iff.1 hb).1 (fun hs => ?_)).trans hb
  obtain ⟨c', e', hE, hc⟩ := h2 b hs
  rw [hb] at hc
  injection hc with hc
  injection hc with _ hc _
  exact he (hc ▸ hE)
theorem kp_size {B : Nat} {w w' : World} (h : Bk.Kp B w w') : w.heap.size ≤ w'.heap.size := by
  obtain ⟨S, h1, _⟩ := h
  exact h1.size
/-- bytes whose block is one of bytes -/
structure ByT (w : World) (a : Option Addr) (n cap : Nat) (l : Bs) : Prop where
  by' : By w a n cap l
  ty : ∀ ad, a = some ad → ∃ cur f, w.heap[ad.block]? = some (.cells cur 5 f)
theorem ByT.keep {w w' : World} {a : Option Addr} {n cap : Nat} {l : Bs} (h : ByT w a n cap l) (hk : ∀ (b : Nat) cur f, w.heap[b]? = some (.cells cur 5 f) → w'.heap[b]? = some (.cells cur 5 f)) (hs : w.heap.size ≤ w'.heap.size) : ByT w' a n cap l := by
  refine ⟨⟨h.by'.len, h.by'.le, h.by'.nil, ?_⟩, fun ad e => ?_⟩
  · rcases h.by'.cells with h0 | ⟨b, off, e, hlt, hc⟩
    · exact .inl h0
    · obtain ⟨cur, f, hb⟩ := h.ty _ e
      refine .inr ⟨b, off, e, Nat.lt_of_lt_of_le hlt hs, fun i hi => (World.cell?_of_block ?_).trans (hc i hi)⟩
      exact (hk b cur f hb).trans hb.symm
  · obtain ⟨cur, f, hb⟩ := h.ty _ e
    exact ⟨cur, f, hk _ _ _ hb⟩
theorem ByT.below {w w' : World} {a : Option Addr} {n cap : Nat} {l : Bs} (h : ByT w a n cap l) (hb : Below w.heap.size w w') : ByT w' a n cap l := h.keep (fun b _ _ hc => (hb.block b (Array.getElem?_eq_some_iff.1 hc).1).trans hc) hb.size
theorem ByT.kp {B : Nat} {w w' : World} {a : Option Addr} {n cap : Nat} {l : Bs} (h : ByT w a n cap l) (hk : Bk.Kp B w w') : ByT w' a n cap l := h.keep (fun _ _ _ hc => kp_block hk hc (by decide)) (kp_size hk)
theorem twb_keep {w w' : World} {g : Nat} {l : Bs} (h : TwB w g l) (hk : w'.heap[g]? = w.heap[g]?) : TwB w' g l := ⟨fun i hi => (World.cell?_of_block hk).trans (h.1 i hi), (World.cell?_of_block hk).trans h.2⟩
set_option maxHeartbeats 400000 in
set_option maxRecDepth 100000 in
theorem bookCall9 (B P n : Nat) (LG : List Bk.Kept) (c : Ca) (da : Option Addr) (dc : Nat) (w : World) (h : Bk.BB B P n LG w) (hv : Row B (.slice da c.data.length dc) c.data w) (hn : n ≤ 1000) (hl : LG.length ≤ 1000) :
    Calls Tryz.prog 13 #[.pointer (some ⟨P, 0, none⟩), .agg (ca c (.slice da c.data.length dc))] w fun e w' => e = .returned (.tuple #[]) ∧ ∃ W, Below w.heap.size w W ∧ Bk.BB B P (n + 1) (LG ++ [⟨.slice da c.data.length dc, n + 1, c.data.length, Lib.byteCells c.data⟩]) w' ∧ Bk.Kp B W w' := by
  obtain ⟨kind, path, other, mode, user, group, time, data, eu, eg, em, ed⟩ := c
  simp only at hv ⊢
  have b1 := below_new w (.cells (ca ⟨kind, path, other, mode, user, group, time, data, eu, eg, em, ed⟩ (.slice da data.length dc)) 27)
  have HS := hide (Bk.bytes_step B P n LG _ (bb_below9 h b1) _ data.length (Lib.byteCells data) _ 1 (row_below hv b1) hn hl)
  have HB := hide b1
  clear h hv b1
  go_enter Tryz.func13, Tryz.ntmps13
  go_wp2_with fail
  refine (unhide HS).mono ?_
  rintro e w' ⟨rfl, h1, h2⟩
  have H1 := hide h1
  have H2 := hide h2
  clear h1 h2 HS
  go_wp2_with fail
  go_end0
  exact ⟨rfl, _, unhide HB, unhide H1, unhide H2⟩
theorem getP_len {l r : Bs} {c : Ca} (h : getP l = some (c, r)) : c.data.length ≤ 65536 := by
  simp only [getP, g1, g2, g3, g4, g5, g6, Option.bind_eq_some_iff] at h
  obtain ⟨p1, _, p2, _, p3, _, p4, _, p5, h5, p6, _, h⟩ := h
  injection h with h
  injection h with h _
  rw [← h]
  simp only [txtP, Option.bind_eq_some_iff] at h5
  obtain ⟨q, hq, h5⟩ := h5
  have := takeP_len (x := p5.1) (r := p5.2) h5
  have := lenP_le (x := q.1) (r := q.2) hq
  show p5.1.length ≤ 65536
  omega
/-- what both answer -/
theorem both_get (l : Bs) : ∃ (c : Ca) (K E : Int), c.data.length ≤ 65536 ∧ (∀ w e w', GetR w l e w' → Below w.heap.size w w' ∧ ∃ da dc, e = .returned (.tuple #[.agg (ca c (.slice da c.data.length dc)), .int .i64 K, .int .i64 E]) ∧ Row w.heap.size (.slice da c.data.length dc) c.data w') ∧
    (∀ w e w', RGetR w l e w' → Below w.heap.size w w' ∧ ∃ da dc, e = .returned (.tuple #[.agg (ca c (.slice da c.data.length dc)), .int .i64 K, .int .i64 E]) ∧ ByT w' da c.data.length dc c.data) := by
  cases h : getP l with
  | none =>
    refine ⟨caz, 0, 5, by simp [caz], fun w e w' hg => ⟨hg.1, none, 0, ?_, row_nil _ _⟩, fun w e w' hg => ⟨hg.1, none, 0, ?_, ⟨⟨rfl, Nat.le_refl _, fun _ => ⟨rfl, rfl⟩, .inl rfl⟩, fun ad e => by cases e⟩⟩⟩
    · have := hg.2; rw [h] at this; exact this
    · have := hg.2; rw [h] at this; exact this
  | some p =>
    obtain ⟨c, r⟩ := p
    refine ⟨c, (l.length : Int) - (r.length : Int), 0, getP_len h, fun w e w' hg => ⟨hg.1, ?_⟩, fun w e w' hg => ⟨hg.1, ?_⟩⟩
    · have := hg.2
      rw [h] at this
      obtain ⟨d, he, hR⟩ := this
      obtain ⟨da, dc, rfl⟩ := row_slice hR
      exact ⟨da, dc, he, hR⟩
    · have := hg.2
      rw [h] at this
      obtain ⟨da, dc, he, hB, hT⟩ := this
      exact ⟨da, dc, he, hB, hT⟩
abbrev bookO : Obj := Obj.cells #[Value.int IntKind.i64 0, Value.slice none 0 0, Value.slice none 0 0, Value.slice none 0 0, Value.slice none 0 0, Value.slice none 0 0, Value.slice none 0 0, Value.slice none 0 0, Value.slice none 0 0, Value.slice none 0 0, Value.slice none 0 0, Value.slice none 0 0, Value.slice none 0 0] 49
theorem cb_kp {B : Nat} {w w' : World} {b : Nat} {c : Ca} {d : Value} (h : Cb w b c d) (hk : Bk.Kp B w w') : Cb w' b c d := kp_block hk h (by decide)
theorem cb_below {w w' : World} {b : Nat} {c : Ca} {d : Value} (h : Cb w b c d) (hk : Below w.heap.size w w') : Cb w' b c d := (hk.block _ (Array.getElem?_eq_some_iff.1 h).1).trans h
set_option maxHeartbeats 4000000 in
set_option maxRecDepth 100000 in
theorem gets_walk (a : Option Addr) (n cap : Nat) (l : Bs) (w : World) (hB : By w a n cap l) (hn : n ≤ 140737488351232) :
    Calls Tryz.prog 4 #[.slice a n cap] w fun e w' => e = .returned (.bool true) ∧ Below w.heap.size w w' := by
  have T1 := hide (twinO_any a n cap l w hB hn)
  obtain ⟨c, K, E, hcl, hG, hD⟩ := both_get l
  have HG := hide hG
  have HD := hide hD
  have Y0 := hide hB
  have YLO := hide (By.in hB)
  have HL := hide hB.len
  clear hB hG hD
  obtain ⟨kind, path, other, mode, user, group, time, data, eu, eg, em, ed⟩ := c
  simp only at hcl HG HD
  go_enter Tryz.func4, Tryz.ntmps4
  go_wp2_with fail
  refine (unhide T1).mono ?_
  rintro e w1 ⟨rfl, hT, hR, hb1, hg⟩
  obtain ⟨g, hgx⟩ : ∃ g, g = w.heap.size := ⟨_, rfl⟩
  rw [← hgx] at hT hR hg
  rw [← hgx]
  have B1 := hide hb1
  have Tw1 := hide hT
  have R1 : Hid (Row w.heap.size (.slice (some ⟨g, 0, none⟩) n (n + 1)) l w1) := by rw [← hgx]; exact hR
  have Y1 := hide ((unhide Y0).below hb1)
  have G1 := hide hg
  have hlen := unhide HL
  have P1 := hide (get_any (some ⟨g, 0, none⟩) n (n + 1) l w1 (by have := hT.bytes hg; rw [hlen] at this; exact this) (by omega))
  clear T1 hT hR hb1 hg Y0 hgx hlen
  go_wp2_with fail
  refine (unhide P1).mono ?_
  rintro e w2 hGR
  obtain ⟨hb2, da, dc, rfl, hR2⟩ := unhide HG _ _ _ hGR
  have B2 := hide ((unhide B1).trans (hb2.mono (unhide B1).size))
  have Tw2 := hide ((unhide Tw1).below (unhide G1) hb2)
  have G2 := hide (Nat.lt_of_lt_of_le (unhide G1) hb2.size)
  have R2 := hide (row_below (unhide R1) hb2)
  have Y2 := hide ((unhide Y1).below hb2)
  have Atd := hide (aloof9 (unhide R1) hR2 (Nat.le_refl _))
  have D2 : Hid (Row w.heap.size (.slice da data.length dc) data w2) := row_base hR2 (unhide B1).size
  clear P1 hGR hb2 hR2 B1 Tw1 G1 R1 Y1 HG
  obtain ⟨xb, hxb⟩ : ∃ xb, xb = w2.heap.size := ⟨_, rfl⟩
  obtain ⟨w3, hw3⟩ : ∃ w3, w3 = w2.alloc (.cells (ca ⟨kind, path, other, mode, user, group, time, data, eu, eg, em, ed⟩ (.slice da data.length dc)) 27) := ⟨_, rfl⟩
  have hb3 : Below w2.heap.size w2 w3 := by rw [hw3]; exact below_new w2 _
  have X3 : Hid (Cb w3 xb ⟨kind, path, other, mode, user, group, time, data, eu, eg, em, ed⟩ (.slice da data.length dc)) := by rw [hw3, hxb]; exact heap_alloc_new w2 _
  have B3 := hide ((unhide B2).trans (hb3.mono (unhide B2).size))
  have Tw3 := hide ((unhide Tw2).below (unhide G2) hb3)
  have G3 := hide (Nat.lt_of_lt_of_le (unhide G2) hb3.size)
  have R3 := hide (row_below (unhide R2) hb3)
  have Y3 := hide ((unhide Y2).below hb3)
  have D3 := hide (row_below (unhide D2) hb3)
  have HW3 := hide hw3
  have HXB := hide hxb
  clear hb3 hw3 hxb B2 Tw2 G2 R2 Y2 D2
  go_upto_region 3 with fail
  rw [← unhide HXB, ← unhide HW3]
  clear HXB HW3
  have P2 := hide (rget_any a n cap l w3 (unhide Y3) (by omega))
  go_wp2_with fail
  refine (unhide P2).mono ?_
  rintro e w4 hGR
  obtain ⟨hb4, ya, yc, rfl, hZ4⟩ := unhide HD _ _ _ hGR
  have B4 := hide ((unhide B3).trans (hb4.mono (unhide B3).size))
  have Tw4 := hide ((unhide Tw3).below (unhide G3) hb4)
  have G4 := hide (Nat.lt_of_lt_of_le (unhide G3) hb4.size)
  have R4 := hide (row_below (unhide R3) hb4)
  have Y4 := hide ((unhide Y3).below hb4)
  have D4 := hide (row_below (unhide D3) hb4)
  have X4 := hide (cb_below (unhide X3) hb4)
  have Z4 := hide hZ4
  clear P2 hGR hb4 hZ4 B3 Tw3 G3 R3 Y3 D3 X3 HD
  obtain ⟨yb, hyb⟩ : ∃ yb, yb = w4.heap.size := ⟨_, rfl⟩
  obtain ⟨w5, hw5⟩ : ∃ w5, w5 = w4.alloc (.cells (ca ⟨kind, path, other, mode, user, group, time, data, eu, eg, em, ed⟩ (.slice ya data.length yc)) 27) := ⟨_, rfl⟩
  have hb5 : Below w4.heap.size w4 w5 := by rw [hw5]; exact below_new w4 _
  have V5 : Hid (Cb w5 yb ⟨kind, path, other, mode, user, group, time, data, eu, eg, em, ed⟩ (.slice ya data.length yc)) := by rw [hw5, hyb]; exact heap_alloc_new w4 _
  have B5 := hide ((unhide B4).trans (hb5.mono (unhide B4).size))
  have Tw5 := hide ((unhide Tw4).below (unhide G4) hb5)
  have G5 := hide (Nat.lt_of_lt_of_le (unhide G4) hb5.size)
  have R5 := hide (row_below (unhide R4) hb5)
  have Y5 := hide ((unhide Y4).below hb5)
  have D5 := hide (row_below (unhide D4) hb5)
  have X5 := hide (cb_below (unhide X4) hb5)
  have Z5 := hide ((unhide Z4).below hb5)
  have HW5 := hide hw5
  have HYB := hide hyb
  clear hb5 hw5 hyb B4 Tw4 G4 R4 Y4 D4 X4 Z4
  go_upto_region 4 with fail
  rw [← unhide HYB, ← unhide HW5]
  clear HYB HW5
  obtain ⟨P, hP⟩ : ∃ P, P = w5.heap.size := ⟨_, rfl⟩
  obtain ⟨w6, hw6⟩ : ∃ W, W = w5.alloc bookO := ⟨_, rfl⟩
  have hO := Bk.own_new w5 P hP
  rw [← hw6] at hO
  have hb6 : Below w5.heap.size w5 w6 := by rw [hw6]; exact below_new w5 _
  have B6 := hide ((unhide B5).trans (hb6.mono (unhide B5).size))
  have Tw6 := hide ((unhide Tw5).below (unhide G5) hb6)
  have R6 := hide (row_below (unhide R5) hb6)
  have Y6 := hide ((unhide Y5).below hb6)
  have D6 := hide (row_below (unhide D5) hb6)
  have X6 := hide (cb_below (unhide X5) hb6)
  have V6 := hide (cb_below (unhide V5) hb6)
  have Z6 := hide ((unhide Z5).below hb6)
  have hs5 := (unhide B5).size
  have HBk : Hid (Bk.BB w.heap.size P 0 [] w6) := Bk.BB.start hO (by omega) (unhide B6).size
  have C7 := hide (Bk.bytes_step w.heap.size P 0 [] w6 (unhide HBk) _ l.length (Lib.byteCells l) _ 1 (unhide R6) (by omega) (by simp))
  rw [unhide HL] at C7
  have HW6 := hide hw6
  have HP := hide hP
  clear hO hw6 hP hb6 hs5 HBk B5 Tw5 G5 R5 Y5 D5 X5 V5 Z5
  go_upto_region 5 with fail
  rw [← unhide HP, ← unhide HW6]
  clear HP HW6
  go_wp2_with fail
  refine (unhide C7).mono ?_
  rintro e w7 ⟨rfl, hBk7, hk7⟩
  have B7 := hide ((unhide B6).trans (hk7.below (unhide B6).size))
  have Tw7 := hide (twb_keep (unhide Tw6) (by
    obtain ⟨cur, hc⟩ := Bk.own_block (unhide R6) g rfl |>.2
    exact (kp_block hk7 hc (by decide)).trans hc.symm))
  have R7 := hide (hk7.own (unhide R6) (by decide))
  have Y7 := hide (By.low (unhide Y6) (unhide YLO) (hk7.below (unhide B6).size))
  have D7 := hide (hk7.own (unhide D6) (by decide))
  have X7 := hide (cb_kp (unhide X6) hk7)
  have V7 := hide (cb_kp (unhide V6) hk7)
  have Z7 := hide ((unhide Z6).kp hk7)
  have C8 := hide (bookCall9 w.heap.size P (0 + 1) _ ⟨kind, path, other, mode, user, group, time, data, eu, eg, em, ed⟩ da dc w7 hBk7 (unhide D7) (by omega) (by simp))
  clear C7 hBk7 hk7 B6 Tw6 R6 Y6 D6 X6 V6 Z6
  have kX0 : w7.cell? ⟨xb, 0, none⟩ = some (.int .u8 (kind.toNat : Int)) := (unhide X7).at 0 _ rfl
  have kX1 : w7.cell? ⟨xb, 1, none⟩ = some (.string path) := (unhide X7).at 1 _ rfl
  have kX2 : w7.cell? ⟨xb, 2, none⟩ = some (.string other) := (unhide X7).at 2 _ rfl
  have kX3 : w7.cell? ⟨xb, 3, none⟩ = some (.int .i64 mode) := (unhide X7).at 3 _ rfl
  have kX4 : w7.cell? ⟨xb, 4, none⟩ = some (.int .i64 user) := (unhide X7).at 4 _ rfl
  have kX5 : w7.cell? ⟨xb, 5, none⟩ = some (.int .i64 group) := (unhide X7).at 5 _ rfl
  have kX6 : w7.cell? ⟨xb, 6, none⟩ = some (.int .i64 time) := (unhide X7).at 6 _ rfl
  have kX7 : w7.cell? ⟨xb, 7, none⟩ = some (.slice da data.length dc) := (unhide X7).at 7 _ rfl
  have kX8 : w7.cell? ⟨xb, 8, none⟩ = some (.int .i64 eu) := (unhide X7).at 8 _ rfl
  have kX9 : w7.cell? ⟨xb, 9, none⟩ = some (.int .i64 eg) := (unhide X7).at 9 _ rfl
  have kX10 : w7.cell? ⟨xb, 10, none⟩ = some (.int .i64 em) := (unhide X7).at 10 _ rfl
  have kX11 : w7.cell? ⟨xb, 11, none⟩ = some (.int .i64 ed) := (unhide X7).at 11 _ rfl
  go_wp2_with fail
  clear kX0 kX1 kX2 kX3 kX4 kX5 kX6 kX7 kX8 kX9 kX10 kX11
  refine (unhide C8).mono ?_
  rintro e w8 ⟨rfl, W8, bw8, hBk8, hk8⟩
  have BW := (unhide B7).trans (bw8.mono (unhide B7).size)
  have B8 : Hid (Below w.heap.size w w8) := BW.trans (hk8.below BW.size)
  have R8 := hide (hk8.own (row_below (unhide R7) bw8) (by decide))
  have Tw8 := hide (twb_keep (unhide Tw7) (by
    obtain ⟨cur, hc⟩ := Bk.own_block (unhide R7) g rfl |>.2
    have hc2 := (bw8.block _ (Array.getElem?_eq_some_iff.1 hc).1).trans hc
    exact (kp_block hk8 hc2 (by decide)).trans hc.symm))
  have Y8 := hide (By.low ((unhide Y7).below bw8) (unhide YLO) (hk8.below BW.size))
  have D8 := hide (hk8.own (row_below (unhide D7) bw8) (by decide))
  have X8 := hide (cb_kp (cb_below (unhide X7) bw8) hk8)
  have V8 := hide (cb_kp (cb_below (unhide V7) bw8) hk8)
  have Z8 := hide (((unhide Z7).below bw8).kp hk8)
  have HBk8 := hide hBk8
  have S9 := hide (sameC_yes ⟨kind, path, other, mode, user, group, time, data, eu, eg, em, ed⟩ da ya dc yc w8 (by obtain ⟨a9, c9, e9, f9, _⟩ := row_by (unhide D8); injection e9 with e1 _ e2; subst e1 e2; exact f9) (unhide Z8).by' (by show data.length ≤ 4611686018427387904; omega))
  clear C8 bw8 hBk8 hk8 BW B7 Tw7 R7 Y7 D7 X7 V7 Z7
  have kX0 : w8.cell? ⟨xb, 0, none⟩ = some (.int .u8 (kind.toNat : Int)) := (unhide X8).at 0 _ rfl
  have kX1 : w8.cell? ⟨xb, 1, none⟩ = some (.string path) := (unhide X8).at 1 _ rfl
  have kX2 : w8.cell? ⟨xb, 2, none⟩ = some (.string other) := (unhide X8).at 2 _ rfl
  have kX3 : w8.cell? ⟨xb, 3, none⟩ = some (.int .i64 mode) := (unhide X8).at 3 _ rfl
  have kX4 : w8.cell? ⟨xb, 4, none⟩ = some (.int .i64 user) := (unhide X8).at 4 _ rfl
  have kX5 : w8.cell? ⟨xb, 5, none⟩ = some (.int .i64 group) := (unhide X8).at 5 _ rfl
  have kX6 : w8.cell? ⟨xb, 6, none⟩ = some (.int .i64 time) := (unhide X8).at 6 _ rfl
  have kX7 : w8.cell? ⟨xb, 7, none⟩ = some (.slice da data.length dc) := (unhide X8).at 7 _ rfl
  have kX8 : w8.cell? ⟨xb, 8, none⟩ = some (.int .i64 eu) := (unhide X8).at 8 _ rfl
  have kX9 : w8.cell? ⟨xb, 9, none⟩ = some (.int .i64 eg) := (unhide X8).at 9 _ rfl
  have kX10 : w8.cell? ⟨xb, 10, none⟩ = some (.int .i64 em) := (unhide X8).at 10 _ rfl
  have kX11 : w8.cell? ⟨xb, 11, none⟩ = some (.int .i64 ed) := (unhide X8).at 11 _ rfl
  have kV0 : w8.cell? ⟨yb, 0, none⟩ = some (.int .u8 (kind.toNat : Int)) := (unhide V8).at 0 _ rfl
  have kV1 : w8.cell? ⟨yb, 1, none⟩ = some (.string path) := (unhide V8).at 1 _ rfl
  have kV2 : w8.cell? ⟨yb, 2, none⟩ = some (.string other) := (unhide V8).at 2 _ rfl
  have kV3 : w8.cell? ⟨yb, 3, none⟩ = some (.int .i64 mode) := (unhide V8).at 3 _ rfl
  have kV4 : w8.cell? ⟨yb, 4, none⟩ = some (.int .i64 user) := (unhide V8).at 4 _ rfl
  have kV5 : w8.cell? ⟨yb, 5, none⟩ = some (.int .i64 group) := (unhide V8).at 5 _ rfl
  have kV6 : w8.cell? ⟨yb, 6, none⟩ = some (.int .i64 time) := (unhide V8).at 6 _ rfl
  have kV7 : w8.cell? ⟨yb, 7, none⟩ = some (.slice ya data.length yc) := (unhide V8).at 7 _ rfl
  have kV8 : w8.cell? ⟨yb, 8, none⟩ = some (.int .i64 eu) := (unhide V8).at 8 _ rfl
  have kV9 : w8.cell? ⟨yb, 9, none⟩ = some (.int .i64 eg) := (unhide V8).at 9 _ rfl
  have kV10 : w8.cell? ⟨yb, 10, none⟩ = some (.int .i64 em) := (unhide V8).at 10 _ rfl
  have kV11 : w8.cell? ⟨yb, 11, none⟩ = some (.int .i64 ed) := (unhide V8).at 11 _ rfl
  go_wp2_with fail
  clear kX0 kX1 kX2 kX3 kX4 kX5 kX6 kX7 kX8 kX9 kX10 kX11
  clear kV0 kV1 kV2 kV3 kV4 kV5 kV6 kV7 kV8 kV9 kV10 kV11
  refine (unhide S9).mono ?_
  rintro e w9 ⟨rfl, hb9⟩
  have B9 := hide ((unhide B8).trans (hb9.mono (unhide B8).size))
  have hg8 : g < w8.heap.size := ((unhide R8).lt g rfl).2
  have Tw9 := (unhide Tw8).below hg8 hb9
  have Y9 := hide ((unhide Y8).below hb9)
  have R9 := hide (row_below (unhide R8) hb9)
  have D9 := hide (row_below (unhide D8) hb9)
  have HBk9 := hide (bb_below9 (unhide HBk8) hb9)
  have L10 := hide (leftB_any a g n cap cap l w9 (unhide Y9) Tw9 hn)
  clear S9 hb9 hg8 Tw9 B8 Tw8 R8 Y8 D8 X8 V8 Z8 HBk8
  go_wp2_with fail
  refine (unhide L10).mono ?_
  rintro e w10 ⟨rfl, hb10⟩
  have B10 := hide ((unhide B9).trans (hb10.mono (unhide B9).size))
  have R10 := hide (row_below (unhide R9) hb10)
  have D10 := hide (row_below (unhide D9) hb10)
  have HBk10 := hide (bb_below9 (unhide HBk9) hb10)
  have C11 := hide (Bk.apart_step w.heap.size P _ _ w10 (unhide HBk10) (by have := two_given (unhide R10) (unhide D10) (unhide Atd) (by rw [unhide HL]; exact hn) (by omega); rw [unhide HL] at this; exact this) (by simp))
  clear L10 hb10 B9 R9 Y9 D9 HBk9 R10 D10 HBk10
  go_wp2_with fail
  refine (unhide C11).mono ?_
  rintro e w11 ⟨rfl, hb11⟩
  have B11 := hide ((unhide B10).trans hb11)
  clear C11 hb11 B10
  go_wp2_with fail
  refine (lives_any w11).mono ?_
  rintro e w12 ⟨rfl, hb12⟩
  have B12 := hide ((unhide B11).trans (hb12.mono (unhide B11).size))
  clear hb12 B11
  go_wp2_with fail
  go_ret
  exact ⟨rfl, unhide B12⟩
end Go.Proofs.YtbofidpoajdcmaaGreatDoor.Cd
