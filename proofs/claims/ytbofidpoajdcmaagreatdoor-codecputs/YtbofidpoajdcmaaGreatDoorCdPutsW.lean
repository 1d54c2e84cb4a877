/- The law CodecPuts: walked. -/
import Derived.Test.YtbofidpoajdcmaaGreatDoorBookB
import Derived.Test.YtbofidpoajdcmaaGreatDoorCdTwinC
import Derived.Test.YtbofidpoajdcmaaGreatDoorCdRefPut
import Derived.Test.YtbofidpoajdcmaaGreatDoorCdLives
import Derived.Deep.DeepCutAuto
import Derived.Deep.CutBlock
namespace Go.Proofs.YtbofidpoajdcmaaGreatDoor.Cd
open Go.RowKit Cu Tr

theorem aloof {w w' : World} {B1 B2 : Nat} {v1 v2 : Value} {l1 l2 : Bs} (h1 : Row B1 v1 l1 w) (_h2 : Row B2 v2 l2 w') (h : w.heap.size ≤ B2) : ∀ k, v1.ownBlock = some k → v2.ownBlock = some k → False := by
  intro k k1 k2
  have := (h1.lt k k1).2
  have := row_lo _h2 k k2
  omega
theorem same_rows {b1 b2 : Nat} {v1 v2 : Value} {l : Bs} {w : World} (h1 : Row b1 v1 l w) (h2 : Row b2 v2 l w) (hn : l.length ≤ 4611686018427387904) :
    Calls Tryz.prog 11 #[v1, v2] w fun e w' => e = .returned (.bool true) ∧ Below w.heap.size w w' := by
  obtain ⟨a1, c1, rfl, f1, _⟩ := row_by h1
  obtain ⟨a2, c2, rfl, f2, _⟩ := row_by h2
  exact sameB_yes a1 a2 l.length c1 c2 l w f1 f2 hn
theorem three_given {B : Nat} {l r : Bs} {t a b : Value} {w : World} (h0 : Row B t l w) (h1 : Row B a r w) (h2 : Row B b r w) (hTA : ∀ k, t.ownBlock = some k → a.ownBlock = some k → False) (hTB : ∀ k, t.ownBlock = some k → b.ownBlock = some k → False) (hAB : ∀ k, a.ownBlock = some k → b.ownBlock = some k → False) (hl : l.length ≤ 4194304) (hr : r.length ≤ 4194304) :
    Bk.Given B 5 1 [⟨t, 1, l.length, Lib.byteCells l⟩, ⟨a, 2, r.length, Lib.byteCells r⟩, ⟨b, 3, r.length, Lib.byteCells r⟩] w := by
  refine ⟨?_, ?_⟩
  · intro x hx
    simp only [List.mem_cons, List.not_mem_nil, or_false] at hx
    rcases hx with rfl | rfl | rfl
    · exact ⟨h0, by simp, hl⟩
    · exact ⟨h1, by simp, hr⟩
    · exact ⟨h2, by simp, hr⟩
  · refine List.Pairwise.cons ?_ (List.Pairwise.cons ?_ (List.Pairwise.cons ?_ List.Pairwise.nil))
    · intro x hx
      simp only [List.mem_cons, List.not_mem_nil, or_false] at hx
      rcases hx with rfl | rfl
      · exact hTA
      · exact hTB
    · intro x hx
      simp only [List.mem_cons, List.not_mem_nil, or_false] at hx
      subst hx
      exact hAB
    · intro x hx
      cases hx
set_option maxHeartbeats 1000000 in
set_option maxRecDepth 100000 in
theorem leftC_any (c : Ca) (g : Nat) (b : Option Addr) (c2 : Nat) (w : World) (hA : TwB w g c.data) (hg : g < w.heap.size) (hB : By w b c.data.length c2 c.data) (hn : c.data.length ≤ 1048576) :
    Calls Tryz.prog 12 #[cav c (some ⟨g, 0, none⟩) (c.data.length + 1), cav c b c2] w fun e w' => e = .returned (.bool true) ∧ Below w.heap.size w w' := by
  obtain ⟨kind, path, other, mode, user, group, time, data, eu, eg, em, ed⟩ := c
  simp only at hA hB hn
  have b1 := below_new w (.cells (ca ⟨kind, path, other, mode, user, group, time, data, eu, eg, em, ed⟩ (.slice (some ⟨g, 0, none⟩) data.length (data.length + 1))) 27)
  have b2 := below_new (w.alloc (.cells (ca ⟨kind, path, other, mode, user, group, time, data, eu, eg, em, ed⟩ (.slice (some ⟨g, 0, none⟩) data.length (data.length + 1))) 27)) (.cells (ca ⟨kind, path, other, mode, user, group, time, data, eu, eg, em, ed⟩ (.slice b data.length c2)) 27)
  have H := hide (leftB_any b g data.length c2 c2 data _ ((hB.below b1).below b2) ((hA.below hg b1).below (Nat.lt_of_lt_of_le hg b1.size) b2) hn)
  have B2 := hide (b1.trans (b2.mono b1.size))
  clear hA hB b1 b2
  go_enter Tryz.func12, Tryz.ntmps12
  go_wp2_with fail
  refine (unhide H).mono ?_
  rintro e w' ⟨rfl, hb⟩
  have B3 := hide ((unhide B2).trans (hb.mono (unhide B2).size))
  have k08 : w'.cell? ⟨w.heap.size, 8, none⟩ = some (.int .i64 eu) := (hb.cell (p := ⟨w.heap.size, 8, none⟩) (by simp; omega)).trans (by simp)
  have k09 : w'.cell? ⟨w.heap.size, 9, none⟩ = some (.int .i64 eg) := (hb.cell (p := ⟨w.heap.size, 9, none⟩) (by simp; omega)).trans (by simp)
  have k010 : w'.cell? ⟨w.heap.size, 10, none⟩ = some (.int .i64 em) := (hb.cell (p := ⟨w.heap.size, 10, none⟩) (by simp; omega)).trans (by simp)
  have k011 : w'.cell? ⟨w.heap.size, 11, none⟩ = some (.int .i64 ed) := (hb.cell (p := ⟨w.heap.size, 11, none⟩) (by simp; omega)).trans (by simp)
  have k18 : w'.cell? ⟨w.heap.size + 1, 8, none⟩ = some (.int .i64 eu) := (hb.cell (p := ⟨w.heap.size + 1, 8, none⟩) (by simp)).trans (by simp)
  have k19 : w'.cell? ⟨w.heap.size + 1, 9, none⟩ = some (.int .i64 eg) := (hb.cell (p := ⟨w.heap.size + 1, 9, none⟩) (by simp)).trans (by simp)
  have k110 : w'.cell? ⟨w.heap.size + 1, 10, none⟩ = some (.int .i64 em) := (hb.cell (p := ⟨w.heap.size + 1, 10, none⟩) (by simp)).trans (by simp)
  have k111 : w'.cell? ⟨w.heap.size + 1, 11, none⟩ = some (.int .i64 ed) := (hb.cell (p := ⟨w.heap.size + 1, 11, none⟩) (by simp)).trans (by simp)
  clear hb H B2
  go_wp2_with fail
  go_ret
  exact ⟨rfl, unhide B3⟩
theorem own_bel {w w' : World} {B : Nat} {e : TypeId} {z : Nat} {v : Value} {n : Nat} {xs : List Value} (h : w.ownsRow B e z v n xs) (hb : Below w.heap.size w w') : w'.ownsRow B e z v n xs := by
  refine ⟨h.1, ?_⟩
  rcases h.2 with h0 | ⟨g, c, cur, rfl, e1, e2, e3⟩
  · exact .inl h0
  · exact .inr ⟨g, c, cur, rfl, e1, (hb.block g (Array.getElem?_eq_some_iff.1 e2).1).trans e2, e3⟩
theorem bb_below {B P n : Nat} {LG : List Bk.Kept} {w w' : World} (h : Bk.BB B P n LG w) (hb : Below w.heap.size w w') : Bk.BB B P n LG w' := by
  obtain ⟨lo, hi, cur, uG, hO, h0, hj, h7, rG⟩ := h
  exact ⟨lo, Nat.le_trans hi hb.size, cur, uG, own_bel hO hb, h0, hj, h7, own_bel rG hb⟩
set_option maxHeartbeats 400000 in
set_option maxRecDepth 100000 in
theorem bookCall_any (B P n : Nat) (LG : List Bk.Kept) (c : Ca) (g : Nat) (w : World) (h : Bk.BB B P n LG w) (hv : Row B (.slice (some ⟨g, 0, none⟩) c.data.length (c.data.length + 1)) c.data w) (hn : n ≤ 1000) (hl : LG.length ≤ 1000) :
    Calls Tryz.prog 13 #[.pointer (some ⟨P, 0, none⟩), cav c (some ⟨g, 0, none⟩) (c.data.length + 1)] w fun e w' => e = .returned (.tuple #[]) ∧ ∃ W, Below w.heap.size w W ∧ Bk.BB B P (n + 1) (LG ++ [⟨.slice (some ⟨g, 0, none⟩) c.data.length (c.data.length + 1), n + 1, c.data.length, Lib.byteCells c.data⟩]) w' ∧ Bk.Kp B W w' := by
  obtain ⟨kind, path, other, mode, user, group, time, data, eu, eg, em, ed⟩ := c
  simp only at hv ⊢
  have b1 := below_new w (.cells (ca ⟨kind, path, other, mode, user, group, time, data, eu, eg, em, ed⟩ (.slice (some ⟨g, 0, none⟩) data.length (data.length + 1))) 27)
  have HS := hide (Bk.bytes_step B P n LG _ (bb_below h b1) _ data.length (Lib.byteCells data) _ 1 (row_below hv b1) hn hl)
  have HB := hide b1
  clear h hv b1
  go_enter Tryz.func13, Tryz.ntmps13
  go_wp2_with fail
  refine (unhide HS).mono ?_
  rintro e w' ⟨rfl, h1, h2⟩
  have H1 := hide h1
  have H2 := hide h2
  clear h1 h2 HS
  go_wp2_with fail
  go_end0
  exact ⟨rfl, _, unhide HB, unhide H1, unhide H2⟩

theorem zero3 : (0 : Nat) + 1 + 1 + 1 = 3 := rfl
set_option maxHeartbeats 2000000 in
set_option maxRecDepth 100000 in
theorem puts_walk (c : Ca) (a : Option Addr) (cap : Nat) (w : World) (h1 : By w a c.data.length cap c.data) (hp : c.path.size ≤ 281474976710656) (ho : c.other.size ≤ 281474976710656) (hn : c.data.length ≤ 281474976710656) :
    Calls Tryz.prog 3 #[cav c a cap] w fun e w' => e = .returned (.bool true) ∧ Below w.heap.size w w' := by
  have HS := hide (callSize_any c a cap (w.alloc (.cells (ca c (.slice a c.data.length cap)) 27)) hp ho hn)
  have D1 : Hid (Cb (w.alloc (.cells (ca c (.slice a c.data.length cap)) 27)) w.heap.size c (.slice a c.data.length cap)) := heap_alloc_new w _
  have b1 := below_new w (.cells (ca c (.slice a c.data.length cap)) 27)
  have Y1 := hide (h1.below b1)
  have B1 := hide b1
  clear b1
  obtain ⟨L, hL⟩ : ∃ L : Bs, Hid (L = if mayPut c = true then putP c else []) := ⟨_, rfl⟩
  obtain ⟨er, hE⟩ : ∃ er : Int, Hid (er = if mayPut c = true then 0 else 1) := ⟨_, rfl⟩
  have hLl : L.length ≤ 77 + c.path.size + c.other.size + c.data.length := by
    rw [unhide hL]; split
    · rw [putP_len]; exact Nat.le_refl _
    · simp
  have HP : Hid (∀ (a : Option Addr) (cap : Nat) (W : World), By W a c.data.length cap c.data → Calls Tryz.prog 9 #[cav c a cap] W fun e w' => (∃ v, e = .returned (.tuple #[v, .int .i64 er]) ∧ Row W.heap.size v L w') ∧ Below W.heap.size W w') := fun a cap W hB => by
    rw [unhide hL, unhide hE]; exact put_any c a cap W hB (by omega) (by omega)
  have HR : Hid (∀ (a : Option Addr) (cap : Nat) (W : World), By W a c.data.length cap c.data → Calls Tryz.prog 10 #[cav c a cap] W fun e w' => (∃ v, e = .returned (.tuple #[v, .int .i64 er]) ∧ Row W.heap.size v L w') ∧ Below W.heap.size W w') := fun a cap W hB => by
    rw [unhide hL, unhide hE]; exact rput_any c a cap W hB (by omega) (by omega) (by omega)
  have HTW : Hid (∀ (W : World), By W a c.data.length cap c.data → c.data.length ≤ 1048576 → Calls Tryz.prog 8 #[cav c a cap] W fun e w' => (∃ g, e = .returned (cav c (some ⟨g, 0, none⟩) (c.data.length + 1)) ∧ TwB w' g c.data ∧ Row W.heap.size (.slice (some ⟨g, 0, none⟩) c.data.length (c.data.length + 1)) c.data w' ∧ g < w'.heap.size) ∧ Below W.heap.size W w') := fun W hB hn => twinC_any c a cap W hB hn
  have HLE : Hid (∀ (g : Nat) (W : World), TwB W g c.data → g < W.heap.size → By W a c.data.length cap c.data → c.data.length ≤ 1048576 → Calls Tryz.prog 12 #[cav c (some ⟨g, 0, none⟩) (c.data.length + 1), cav c a cap] W fun e w' => e = .returned (.bool true) ∧ Below W.heap.size W w') := fun g W h1 h2 h3 h4 => leftC_any c g a cap W h1 h2 h3 h4
  have HBC : Hid (∀ (B P n : Nat) (LG : List Bk.Kept) (g : Nat) (w : World), Bk.BB B P n LG w → Row B (.slice (some ⟨g, 0, none⟩) c.data.length (c.data.length + 1)) c.data w → n ≤ 1000 → LG.length ≤ 1000 → Calls Tryz.prog 13 #[.pointer (some ⟨P, 0, none⟩), cav c (some ⟨g, 0, none⟩) (c.data.length + 1)] w fun e w' => e = .returned (.tuple #[]) ∧ ∃ W, Below w.heap.size w W ∧ Bk.BB B P (n + 1) (LG ++ [⟨.slice (some ⟨g, 0, none⟩) c.data.length (c.data.length + 1), n + 1, c.data.length, Lib.byteCells c.data⟩]) w' ∧ Bk.Kp B W w') := fun B P n LG g w h1 h2 h3 h4 => bookCall_any B P n LG c g w h1 h2 h3 h4
  have tE : (er != er) = false := by simp
  clear h1 hL hE
  have HD := hide hp
  clear hp ho hn
  obtain ⟨kind, path, other, mode, user, group, time, data, eu, eg, em, ed⟩ := c
  unfold cav ca at *
  simp only at *
  go_enter Tryz.func3, Tryz.ntmps3
  go_wp2_with fail
  refine (unhide HS).mono ?_
  rintro e w2 ⟨⟨r, rfl, hr⟩, hb2⟩
  have B2 := hide ((unhide B1).trans (hb2.mono (unhide B1).size))
  have Y2 := hide ((unhide Y1).below hb2)
  have D2 : Hid (Cb w2 w.heap.size ⟨kind, path, other, mode, user, group, time, data, eu, eg, em, ed⟩ (.slice a data.length cap)) := (hb2.block _ (Array.getElem?_eq_some_iff.1 (unhide D1)).1).trans (unhide D1)
  clear hb2 HS B1 Y1 D1
  by_cases hb : 500000 < (r : Int)
  · go_wp2_with fail
    refine (lives_any w2).mono ?_
    rintro e w8 ⟨rfl, hb8⟩
    have b9 := hide ((unhide B2).trans (hb8.mono (unhide B2).size))
    clear hb8
    go_wp2_with fail
    go_ret
    exact ⟨rfl, unhide b9⟩
  have hsz := hr (by omega)
  have hdl : Hid (data.length ≤ 1048576) := hide (by omega)
  have hLL : Hid (L.length ≤ 4194304) := hide (by omega)
  have hdd : Hid (data.length ≤ 4194304) := hide (by omega)
  clear hr hsz
  have T1 := hide (unhide HTW w2 (unhide Y2) (unhide hdl))
  have kD0 : w2.cell? ⟨w.heap.size, 0, none⟩ = some (.int .u8 kind.toNat) := (unhide D2).at 0 _ rfl
  have kD1 : w2.cell? ⟨w.heap.size, 1, none⟩ = some (.string path) := (unhide D2).at 1 _ rfl
  have kD2 : w2.cell? ⟨w.heap.size, 2, none⟩ = some (.string other) := (unhide D2).at 2 _ rfl
  have kD3 : w2.cell? ⟨w.heap.size, 3, none⟩ = some (.int .i64 mode) := (unhide D2).at 3 _ rfl
  have kD4 : w2.cell? ⟨w.heap.size, 4, none⟩ = some (.int .i64 user) := (unhide D2).at 4 _ rfl
  have kD5 : w2.cell? ⟨w.heap.size, 5, none⟩ = some (.int .i64 group) := (unhide D2).at 5 _ rfl
  have kD6 : w2.cell? ⟨w.heap.size, 6, none⟩ = some (.int .i64 time) := (unhide D2).at 6 _ rfl
  have kD7 : w2.cell? ⟨w.heap.size, 7, none⟩ = some (.slice a data.length cap) := (unhide D2).at 7 _ rfl
  have kD8 : w2.cell? ⟨w.heap.size, 8, none⟩ = some (.int .i64 eu) := (unhide D2).at 8 _ rfl
  have kD9 : w2.cell? ⟨w.heap.size, 9, none⟩ = some (.int .i64 eg) := (unhide D2).at 9 _ rfl
  have kD10 : w2.cell? ⟨w.heap.size, 10, none⟩ = some (.int .i64 em) := (unhide D2).at 10 _ rfl
  have kD11 : w2.cell? ⟨w.heap.size, 11, none⟩ = some (.int .i64 ed) := (unhide D2).at 11 _ rfl
  go_wp2_with fail
  clear kD0 kD1 kD2 kD3 kD4 kD5 kD6 kD7 kD8 kD9 kD10 kD11
  refine (unhide T1).mono ?_
  rintro e w3 ⟨⟨g, rfl, hT, hR, hg⟩, hb3⟩
  have B3 := hide ((unhide B2).trans (hb3.mono (unhide B2).size))
  have Y3 := hide ((unhide Y2).below hb3)
  have D3 : Hid (Cb w3 w.heap.size ⟨kind, path, other, mode, user, group, time, data, eu, eg, em, ed⟩ (.slice a data.length cap)) := (hb3.block _ (Array.getElem?_eq_some_iff.1 (unhide D2)).1).trans (unhide D2)
  have T3 := hide hT
  have R3 : Hid (Row w.heap.size (.slice (some ⟨g, 0, none⟩) data.length (data.length + 1)) data w3) := row_base hR (unhide B2).size
  have G3 := hide hg
  clear hT hR hg hb3 T1 HTW
  clear B2 Y2 D2 
  obtain ⟨xb, hxb⟩ : ∃ xb, xb = w3.heap.size := ⟨_, rfl⟩
  obtain ⟨w4, hw4⟩ : ∃ w4, w4 = w3.alloc (.cells #[.int .u8 kind.toNat, .string path, .string other, .int .i64 mode, .int .i64 user, .int .i64 group, .int .i64 time, .slice (some ⟨g, 0, none⟩) data.length (data.length + 1), .int .i64 eu, .int .i64 eg, .int .i64 em, .int .i64 ed] 27) := ⟨_, rfl⟩
  have hb4 : Below w3.heap.size w3 w4 := by rw [hw4]; exact below_new w3 _
  have X4 : Hid (Cb w4 xb ⟨kind, path, other, mode, user, group, time, data, eu, eg, em, ed⟩ (.slice (some ⟨g, 0, none⟩) data.length (data.length + 1))) := by rw [hw4, hxb]; exact heap_alloc_new w3 _
  have B4 := hide ((unhide B3).trans (hb4.mono (unhide B3).size))
  have Y4 := hide ((unhide Y3).below hb4)
  have D4 : Hid (Cb w4 w.heap.size ⟨kind, path, other, mode, user, group, time, data, eu, eg, em, ed⟩ (.slice a data.length cap)) := (hb4.block _ (Array.getElem?_eq_some_iff.1 (unhide D3)).1).trans (unhide D3)
  have T4 := hide ((unhide T3).below (unhide G3) hb4)
  have G4 := hide (Nat.lt_of_lt_of_le (unhide G3) hb4.size)
  have R4 := hide (row_below (unhide R3) hb4)
  clear B3 Y3 D3 T3 G3 R3 hb4
  have HW4 := hide hw4
  have HXB := hide hxb
  clear hw4 hxb
  go_upto_region 4 with fail
  rw [← unhide HXB, ← unhide HW4]
  clear HXB HW4
  have P1 := hide (unhide HP (some ⟨g, 0, none⟩) (data.length + 1) w4 ((unhide T4).bytes (unhide G4)))
  have kX0 : w4.cell? ⟨xb, 0, none⟩ = some (.int .u8 kind.toNat) := (unhide X4).at 0 _ rfl
  have kX1 : w4.cell? ⟨xb, 1, none⟩ = some (.string path) := (unhide X4).at 1 _ rfl
  have kX2 : w4.cell? ⟨xb, 2, none⟩ = some (.string other) := (unhide X4).at 2 _ rfl
  have kX3 : w4.cell? ⟨xb, 3, none⟩ = some (.int .i64 mode) := (unhide X4).at 3 _ rfl
  have kX4 : w4.cell? ⟨xb, 4, none⟩ = some (.int .i64 user) := (unhide X4).at 4 _ rfl
  have kX5 : w4.cell? ⟨xb, 5, none⟩ = some (.int .i64 group) := (unhide X4).at 5 _ rfl
  have kX6 : w4.cell? ⟨xb, 6, none⟩ = some (.int .i64 time) := (unhide X4).at 6 _ rfl
  have kX7 : w4.cell? ⟨xb, 7, none⟩ = some (.slice (some ⟨g, 0, none⟩) data.length (data.length + 1)) := (unhide X4).at 7 _ rfl
  have kX8 : w4.cell? ⟨xb, 8, none⟩ = some (.int .i64 eu) := (unhide X4).at 8 _ rfl
  have kX9 : w4.cell? ⟨xb, 9, none⟩ = some (.int .i64 eg) := (unhide X4).at 9 _ rfl
  have kX10 : w4.cell? ⟨xb, 10, none⟩ = some (.int .i64 em) := (unhide X4).at 10 _ rfl
  have kX11 : w4.cell? ⟨xb, 11, none⟩ = some (.int .i64 ed) := (unhide X4).at 11 _ rfl
  go_wp2_with fail
  clear kX0 kX1 kX2 kX3 kX4 kX5 kX6 kX7 kX8 kX9 kX10 kX11
  refine (unhide P1).mono ?_
  rintro e w5 ⟨⟨va, rfl, ra⟩, hb5⟩
  have B5 := hide ((unhide B4).trans (hb5.mono (unhide B4).size))
  have Y5 := hide ((unhide Y4).below hb5)
  have D5 : Hid (Cb w5 w.heap.size ⟨kind, path, other, mode, user, group, time, data, eu, eg, em, ed⟩ (.slice a data.length cap)) := (hb5.block _ (Array.getElem?_eq_some_iff.1 (unhide D4)).1).trans (unhide D4)
  have X5 : Hid (Cb w5 xb ⟨kind, path, other, mode, user, group, time, data, eu, eg, em, ed⟩ (.slice (some ⟨g, 0, none⟩) data.length (data.length + 1))) := (hb5.block _ (Array.getElem?_eq_some_iff.1 (unhide X4)).1).trans (unhide X4)
  have T5 := hide ((unhide T4).below (unhide G4) hb5)
  have G5 := hide (Nat.lt_of_lt_of_le (unhide G4) hb5.size)
  have R5 := hide (row_below (unhide R4) hb5)
  have Ata := hide (aloof (unhide R4) ra (Nat.le_refl _))
  have RA5 : Hid (Row w.heap.size va L w5) := row_base ra (unhide B4).size
  clear ra hb5 P1
  clear B4 Y4 D4 X4 T4 G4 R4 
  have P2 := hide (unhide HP (some ⟨g, 0, none⟩) (data.length + 1) w5 ((unhide T5).bytes (unhide G5)))
  have kX0 : w5.cell? ⟨xb, 0, none⟩ = some (.int .u8 kind.toNat) := (unhide X5).at 0 _ rfl
  have kX1 : w5.cell? ⟨xb, 1, none⟩ = some (.string path) := (unhide X5).at 1 _ rfl
  have kX2 : w5.cell? ⟨xb, 2, none⟩ = some (.string other) := (unhide X5).at 2 _ rfl
  have kX3 : w5.cell? ⟨xb, 3, none⟩ = some (.int .i64 mode) := (unhide X5).at 3 _ rfl
  have kX4 : w5.cell? ⟨xb, 4, none⟩ = some (.int .i64 user) := (unhide X5).at 4 _ rfl
  have kX5 : w5.cell? ⟨xb, 5, none⟩ = some (.int .i64 group) := (unhide X5).at 5 _ rfl
  have kX6 : w5.cell? ⟨xb, 6, none⟩ = some (.int .i64 time) := (unhide X5).at 6 _ rfl
  have kX7 : w5.cell? ⟨xb, 7, none⟩ = some (.slice (some ⟨g, 0, none⟩) data.length (data.length + 1)) := (unhide X5).at 7 _ rfl
  have kX8 : w5.cell? ⟨xb, 8, none⟩ = some (.int .i64 eu) := (unhide X5).at 8 _ rfl
  have kX9 : w5.cell? ⟨xb, 9, none⟩ = some (.int .i64 eg) := (unhide X5).at 9 _ rfl
  have kX10 : w5.cell? ⟨xb, 10, none⟩ = some (.int .i64 em) := (unhide X5).at 10 _ rfl
  have kX11 : w5.cell? ⟨xb, 11, none⟩ = some (.int .i64 ed) := (unhide X5).at 11 _ rfl
  go_wp2_with fail
  clear kX0 kX1 kX2 kX3 kX4 kX5 kX6 kX7 kX8 kX9 kX10 kX11
  refine (unhide P2).mono ?_
  rintro e w6 ⟨⟨vb, rfl, rb⟩, hb6⟩
  have B6 := hide ((unhide B5).trans (hb6.mono (unhide B5).size))
  have Y6 := hide ((unhide Y5).below hb6)
  have D6 : Hid (Cb w6 w.heap.size ⟨kind, path, other, mode, user, group, time, data, eu, eg, em, ed⟩ (.slice a data.length cap)) := (hb6.block _ (Array.getElem?_eq_some_iff.1 (unhide D5)).1).trans (unhide D5)
  have X6 : Hid (Cb w6 xb ⟨kind, path, other, mode, user, group, time, data, eu, eg, em, ed⟩ (.slice (some ⟨g, 0, none⟩) data.length (data.length + 1))) := (hb6.block _ (Array.getElem?_eq_some_iff.1 (unhide X5)).1).trans (unhide X5)
  have T6 := hide ((unhide T5).below (unhide G5) hb6)
  have G6 := hide (Nat.lt_of_lt_of_le (unhide G5) hb6.size)
  have R6 := hide (row_below (unhide R5) hb6)
  have RA6 := hide (row_below (unhide RA5) hb6)
  have Atb := hide (aloof (unhide R5) rb (Nat.le_refl _))
  have Aab := hide (aloof (unhide RA5) rb (Nat.le_refl _))
  have RB6 : Hid (Row w.heap.size vb L w6) := row_base rb (unhide B5).size
  clear rb hb6 P2 HP
  clear B5 Y5 D5 X5 T5 G5 R5 RA5 
  have P3 := hide (unhide HR a cap w6 (unhide Y6))
  have kD0 : w6.cell? ⟨w.heap.size, 0, none⟩ = some (.int .u8 kind.toNat) := (unhide D6).at 0 _ rfl
  have kD1 : w6.cell? ⟨w.heap.size, 1, none⟩ = some (.string path) := (unhide D6).at 1 _ rfl
  have kD2 : w6.cell? ⟨w.heap.size, 2, none⟩ = some (.string other) := (unhide D6).at 2 _ rfl
  have kD3 : w6.cell? ⟨w.heap.size, 3, none⟩ = some (.int .i64 mode) := (unhide D6).at 3 _ rfl
  have kD4 : w6.cell? ⟨w.heap.size, 4, none⟩ = some (.int .i64 user) := (unhide D6).at 4 _ rfl
  have kD5 : w6.cell? ⟨w.heap.size, 5, none⟩ = some (.int .i64 group) := (unhide D6).at 5 _ rfl
  have kD6 : w6.cell? ⟨w.heap.size, 6, none⟩ = some (.int .i64 time) := (unhide D6).at 6 _ rfl
  have kD7 : w6.cell? ⟨w.heap.size, 7, none⟩ = some (.slice a data.length cap) := (unhide D6).at 7 _ rfl
  have kD8 : w6.cell? ⟨w.heap.size, 8, none⟩ = some (.int .i64 eu) := (unhide D6).at 8 _ rfl
  have kD9 : w6.cell? ⟨w.heap.size, 9, none⟩ = some (.int .i64 eg) := (unhide D6).at 9 _ rfl
  have kD10 : w6.cell? ⟨w.heap.size, 10, none⟩ = some (.int .i64 em) := (unhide D6).at 10 _ rfl
  have kD11 : w6.cell? ⟨w.heap.size, 11, none⟩ = some (.int .i64 ed) := (unhide D6).at 11 _ rfl
  go_wp2_with fail
  clear kD0 kD1 kD2 kD3 kD4 kD5 kD6 kD7 kD8 kD9 kD10 kD11
  refine (unhide P3).mono ?_
  rintro e w7 ⟨⟨vx, rfl, rx⟩, hb7⟩
  have B7 := hide ((unhide B6).trans (hb7.mono (unhide B6).size))
  have Y7 := hide ((unhide Y6).below hb7)
  have D7 : Hid (Cb w7 w.heap.size ⟨kind, path, other, mode, user, group, time, data, eu, eg, em, ed⟩ (.slice a data.length cap)) := (hb7.block _ (Array.getElem?_eq_some_iff.1 (unhide D6)).1).trans (unhide D6)
  have X7 : Hid (Cb w7 xb ⟨kind, path, other, mode, user, group, time, data, eu, eg, em, ed⟩ (.slice (some ⟨g, 0, none⟩) data.length (data.length + 1))) := (hb7.block _ (Array.getElem?_eq_some_iff.1 (unhide X6)).1).trans (unhide X6)
  have T7 := hide ((unhide T6).below (unhide G6) hb7)
  have G7 := hide (Nat.lt_of_lt_of_le (unhide G6) hb7.size)
  have R7 := hide (row_below (unhide R6) hb7)
  have RA7 := hide (row_below (unhide RA6) hb7)
  have RB7 := hide (row_below (unhide RB6) hb7)
  have D9 := hide (same_rows (unhide RA7) rx (by have := unhide hLL; omega))
  clear rx hb7 P3 HR
  clear B6 Y6 D6 X6 T6 G6 R6 RA6 RB6 
  go_wp2_with fail
  refine (unhide D9).mono ?_
  rintro e w8 ⟨rfl, hb8⟩
  have B8 := hide ((unhide B7).trans (hb8.mono (unhide B7).size))
  have Y8 := hide ((unhide Y7).below hb8)
  have D8 : Hid (Cb w8 w.heap.size ⟨kind, path, other, mode, user, group, time, data, eu, eg, em, ed⟩ (.slice a data.length cap)) := (hb8.block _ (Array.getElem?_eq_some_iff.1 (unhide D7)).1).trans (unhide D7)
  have X8 : Hid (Cb w8 xb ⟨kind, path, other, mode, user, group, time, data, eu, eg, em, ed⟩ (.slice (some ⟨g, 0, none⟩) data.length (data.length + 1))) := (hb8.block _ (Array.getElem?_eq_some_iff.1 (unhide X7)).1).trans (unhide X7)
  have T8 := hide ((unhide T7).below (unhide G7) hb8)
  have G8 := hide (Nat.lt_of_lt_of_le (unhide G7) hb8.size)
  have R8 := hide (row_below (unhide R7) hb8)
  have RA8 := hide (row_below (unhide RA7) hb8)
  have RB8 := hide (row_below (unhide RB7) hb8)
  have DL := hide (unhide HLE g w8 (unhide T8) (unhide G8) (unhide Y8) (unhide hdl))
  clear hb8 D9 HLE
  clear B7 Y7 D7 X7 T7 G7 R7 RA7 RB7 
  have kD0 : w8.cell? ⟨w.heap.size, 0, none⟩ = some (.int .u8 kind.toNat) := (unhide D8).at 0 _ rfl
  have kD1 : w8.cell? ⟨w.heap.size, 1, none⟩ = some (.string path) := (unhide D8).at 1 _ rfl
  have kD2 : w8.cell? ⟨w.heap.size, 2, none⟩ = some (.string other) := (unhide D8).at 2 _ rfl
  have kD3 : w8.cell? ⟨w.heap.size, 3, none⟩ = some (.int .i64 mode) := (unhide D8).at 3 _ rfl
  have kD4 : w8.cell? ⟨w.heap.size, 4, none⟩ = some (.int .i64 user) := (unhide D8).at 4 _ rfl
  have kD5 : w8.cell? ⟨w.heap.size, 5, none⟩ = some (.int .i64 group) := (unhide D8).at 5 _ rfl
  have kD6 : w8.cell? ⟨w.heap.size, 6, none⟩ = some (.int .i64 time) := (unhide D8).at 6 _ rfl
  have kD7 : w8.cell? ⟨w.heap.size, 7, none⟩ = some (.slice a data.length cap) := (unhide D8).at 7 _ rfl
  have kD8 : w8.cell? ⟨w.heap.size, 8, none⟩ = some (.int .i64 eu) := (unhide D8).at 8 _ rfl
  have kD9 : w8.cell? ⟨w.heap.size, 9, none⟩ = some (.int .i64 eg) := (unhide D8).at 9 _ rfl
  have kD10 : w8.cell? ⟨w.heap.size, 10, none⟩ = some (.int .i64 em) := (unhide D8).at 10 _ rfl
  have kD11 : w8.cell? ⟨w.heap.size, 11, none⟩ = some (.int .i64 ed) := (unhide D8).at 11 _ rfl
  have kX0 : w8.cell? ⟨xb, 0, none⟩ = some (.int .u8 kind.toNat) := (unhide X8).at 0 _ rfl
  have kX1 : w8.cell? ⟨xb, 1, none⟩ = some (.string path) := (unhide X8).at 1 _ rfl
  have kX2 : w8.cell? ⟨xb, 2, none⟩ = some (.string other) := (unhide X8).at 2 _ rfl
  have kX3 : w8.cell? ⟨xb, 3, none⟩ = some (.int .i64 mode) := (unhide X8).at 3 _ rfl
  have kX4 : w8.cell? ⟨xb, 4, none⟩ = some (.int .i64 user) := (unhide X8).at 4 _ rfl
  have kX5 : w8.cell? ⟨xb, 5, none⟩ = some (.int .i64 group) := (unhide X8).at 5 _ rfl
  have kX6 : w8.cell? ⟨xb, 6, none⟩ = some (.int .i64 time) := (unhide X8).at 6 _ rfl
  have kX7 : w8.cell? ⟨xb, 7, none⟩ = some (.slice (some ⟨g, 0, none⟩) data.length (data.length + 1)) := (unhide X8).at 7 _ rfl
  have kX8 : w8.cell? ⟨xb, 8, none⟩ = some (.int .i64 eu) := (unhide X8).at 8 _ rfl
  have kX9 : w8.cell? ⟨xb, 9, none⟩ = some (.int .i64 eg) := (unhide X8).at 9 _ rfl
  have kX10 : w8.cell? ⟨xb, 10, none⟩ = some (.int .i64 em) := (unhide X8).at 10 _ rfl
  have kX11 : w8.cell? ⟨xb, 11, none⟩ = some (.int .i64 ed) := (unhide X8).at 11 _ rfl
  go_wp2_with fail
  clear kD0 kD1 kD2 kD3 kD4 kD5 kD6 kD7 kD8 kD9 kD10 kD11
  clear kX0 kX1 kX2 kX3 kX4 kX5 kX6 kX7 kX8 kX9 kX10 kX11
  refine (unhide DL).mono ?_
  rintro e w9 ⟨rfl, hb9⟩
  have B9 := hide ((unhide B8).trans (hb9.mono (unhide B8).size))
  have X9 : Hid (Cb w9 xb ⟨kind, path, other, mode, user, group, time, data, eu, eg, em, ed⟩ (.slice (some ⟨g, 0, none⟩) data.length (data.length + 1))) := (hb9.block _ (Array.getElem?_eq_some_iff.1 (unhide X8)).1).trans (unhide X8)
  have R9 := hide (row_below (unhide R8) hb9)
  have RA9 := hide (row_below (unhide RA8) hb9)
  have RB9 := hide (row_below (unhide RB8) hb9)
  clear hb9 DL
  clear B8 Y8 D8 X8 T8 G8 R8 RA8 RB8 
  go_upto_region 10 with fail
  obtain ⟨P, hP⟩ : ∃ P, P = w9.heap.size := ⟨_, rfl⟩
  rw [← hP]
  have hs9 := (unhide B9).size
  obtain ⟨w10, hw10⟩ : ∃ W, W = w9.alloc (Obj.cells #[Value.int IntKind.i64 0, Value.slice none 0 0, Value.slice none 0 0, Value.slice none 0 0, Value.slice none 0 0, Value.slice none 0 0, Value.slice none 0 0, Value.slice none 0 0, Value.slice none 0 0, Value.slice none 0 0, Value.slice none 0 0, Value.slice none 0 0, Value.slice none 0 0] 49) := ⟨_, rfl⟩
  rw [← hw10]
  have hO := Bk.own_new w9 P hP
  rw [← hw10] at hO
  have hb10 : Below w9.heap.size w9 w10 := by rw [hw10]; exact (Below.refl _ _).alloc (Nat.le_refl _) _
  have B10 := hide ((unhide B9).trans (hb10.mono (unhide B9).size))
  have X10 : Hid (Cb w10 xb ⟨kind, path, other, mode, user, group, time, data, eu, eg, em, ed⟩ (.slice (some ⟨g, 0, none⟩) data.length (data.length + 1))) := (hb10.block _ (Array.getElem?_eq_some_iff.1 (unhide X9)).1).trans (unhide X9)
  have R10 := hide (row_below (unhide R9) hb10)
  have RA10 := hide (row_below (unhide RA9) hb10)
  have RB10 := hide (row_below (unhide RB9) hb10)
  have hBk : Bk.BB w.heap.size P 0 [] w10 := Bk.BB.start hO (by omega) (unhide B10).size
  have C11 := hide (unhide HBC w.heap.size P 0 [] g w10 hBk (unhide R10) (by omega) (by simp))
  have kX0 : w10.cell? ⟨xb, 0, none⟩ = some (.int .u8 kind.toNat) := (unhide X10).at 0 _ rfl
  have kX1 : w10.cell? ⟨xb, 1, none⟩ = some (.string path) := (unhide X10).at 1 _ rfl
  have kX2 : w10.cell? ⟨xb, 2, none⟩ = some (.string other) := (unhide X10).at 2 _ rfl
  have kX3 : w10.cell? ⟨xb, 3, none⟩ = some (.int .i64 mode) := (unhide X10).at 3 _ rfl
  have kX4 : w10.cell? ⟨xb, 4, none⟩ = some (.int .i64 user) := (unhide X10).at 4 _ rfl
  have kX5 : w10.cell? ⟨xb, 5, none⟩ = some (.int .i64 group) := (unhide X10).at 5 _ rfl
  have kX6 : w10.cell? ⟨xb, 6, none⟩ = some (.int .i64 time) := (unhide X10).at 6 _ rfl
  have kX7 : w10.cell? ⟨xb, 7, none⟩ = some (.slice (some ⟨g, 0, none⟩) data.length (data.length + 1)) := (unhide X10).at 7 _ rfl
  have kX8 : w10.cell? ⟨xb, 8, none⟩ = some (.int .i64 eu) := (unhide X10).at 8 _ rfl
  have kX9 : w10.cell? ⟨xb, 9, none⟩ = some (.int .i64 eg) := (unhide X10).at 9 _ rfl
  have kX10 : w10.cell? ⟨xb, 10, none⟩ = some (.int .i64 em) := (unhide X10).at 10 _ rfl
  have kX11 : w10.cell? ⟨xb, 11, none⟩ = some (.int .i64 ed) := (unhide X10).at 11 _ rfl
  clear hO hw10 hP hb10 hBk HBC hs9
  clear B9 X9 R9 RA9 RB9 
  go_wp2_with fail
  clear kX0 kX1 kX2 kX3 kX4 kX5 kX6 kX7 kX8 kX9 kX10 kX11
  refine (unhide C11).mono ?_
  rintro e w11 ⟨rfl, W11, bw11, hBk11, hk11⟩
  have HBW := (unhide B10).trans (bw11.mono (unhide B10).size)
  have HB11 : Hid (Below w.heap.size w w11) := HBW.trans (hk11.below HBW.size)
  have HT11 := hide (hk11.own (row_below (unhide R10) bw11) (by decide))
  have HA11 := hide (hk11.own (row_below (unhide RA10) bw11) (by decide))
  have HBb11 := hide (hk11.own (row_below (unhide RB10) bw11) (by decide))
  have C12 := hide (Bk.bytes_step w.heap.size P (0 + 1) _ w11 hBk11 va L.length (Lib.byteCells L) _ 1 (unhide HA11) (by omega) (by simp))
  clear C11 hBk11 hk11 B10 X10 R10 RA10 RB10 bw11 HBW
  go_wp2_with fail
  refine (unhide C12).mono ?_
  rintro e w12 ⟨rfl, hBk12, hk12⟩
  have HB12 : Hid (Below w.heap.size w w12) := (unhide HB11).trans (hk12.below (unhide HB11).size)
  have HT12 := hide (hk12.own (unhide HT11) (by decide))
  have HA12 := hide (hk12.own (unhide HA11) (by decide))
  have HBb12 := hide (hk12.own (unhide HBb11) (by decide))
  have C13 := hide (Bk.bytes_step w.heap.size P (0 + 1 + 1) _ w12 hBk12 vb L.length (Lib.byteCells L) _ 1 (unhide HBb12) (by omega) (by simp))
  clear C12 hBk12 hk12 HB11 HT11 HA11 HBb11
  go_wp2_with fail
  refine (unhide C13).mono ?_
  rintro e w13 ⟨rfl, hBk13, hk13⟩
  have HB13 : Hid (Below w.heap.size w w13) := (unhide HB12).trans (hk13.below (unhide HB12).size)
  have HT13 := hide (hk13.own (unhide HT12) (by decide))
  have HA13 := hide (hk13.own (unhide HA12) (by decide))
  have HBb13 := hide (hk13.own (unhide HBb12) (by decide))
  have C14 := hide (Bk.apart_step w.heap.size P _ _ w13 hBk13 (three_given (unhide HT13) (unhide HA13) (unhide HBb13) (unhide Ata) (unhide Atb) (unhide Aab) (unhide hdd) (unhide hLL)) (by simp))
  clear C13 hBk13 hk13 HB12 HT12 HA12 HBb12
  go_wp2_with fail
  refine (unhide C14).mono ?_
  rintro e w14 ⟨rfl, hb14⟩
  have HBL := hide ((unhide HB13).trans hb14)
  clear C14 hb14 HB13 HT13 HA13 HBb13
  go_wp2_with fail
  refine (lives_any w14).mono ?_
  rintro e w15 ⟨rfl, hb15⟩
  have HBF := hide ((unhide HBL).trans (hb15.mono (unhide HBL).size))
  clear hb15 HBL
  go_wp2_with fail
  go_ret
  exact ⟨rfl, unhide HBF⟩
end Go.Proofs.YtbofidpoajdcmaaGreatDoor.Cd
