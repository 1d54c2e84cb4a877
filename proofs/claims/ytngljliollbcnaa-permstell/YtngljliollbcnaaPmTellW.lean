/- PermsTell walked. -/
import Derived.Test.YtngljliollbcnaaPmRef
import Derived.Test.YtngljliollbcnaaPmClassW
import Derived.Test.YtngljliollbcnaaTrGreat
import Derived.Test.YtngljliollbcnaaTrLeftN
import Derived.Deep.RegionHeld3
namespace Go.Proofs.Ytngljliollbcnaa.Pm
open Go.RowKit Go.Proofs.Ytngljliollbcnaa.Cu Go.Proofs.Ytngljliollbcnaa.Tr

set_option maxRecDepth 100000 in
set_option maxHeartbeats 1000000 in
theorem tell_walk (n : Nd) (da : Option Addr) (dc : Nat) (la : Option Addr) (lc : Nat) (e : Ev) (what : Int) (w : World) (hb : By w da n.data.length dc n.data) (hg : Eg w la n.list.length lc n.list) (hr : Rb n) :
    Calls Try.prog 3 #[.agg (na n (.slice da n.data.length dc) (.slice la n.list.length lc)), .agg (ea e), .int .i64 what] w fun r w' => r = .returned (.bool true) ∧ Below w.heap.size w w' := by
  obtain ⟨dl, hdl⟩ : ∃ dl, n.data.length = dl := ⟨_, rfl⟩
  obtain ⟨ll, hll⟩ : ∃ ll, n.list.length = ll := ⟨_, rfl⟩
  rw [hdl] at hb
  rw [hll] at hg
  rw [hdl, hll]
  have HS : Hid (∀ W, Below w.heap.size w W → Calls Try.prog 8 #[.agg (na n (.slice da dl dc) (.slice la ll lc))] W fun e w' => (∃ r : Nat, e = .returned (.int .i64 r) ∧ r ≤ 1688849860263936 ∧ (r ≤ 1048576 → r = nodeSz n)) ∧ Below W.heap.size W w') := fun W hW => nodeSize_any n da dl dc la ll lc W hdl hll (hg.below hW) hr
  have HT : Hid (nodeSz n ≤ 200000 → ∀ W, Below w.heap.size w W → Calls Try.prog 10 #[.agg (na n (.slice da dl dc) (.slice la ll lc))] W fun e w' => (∃ g1 g2, e = .returned (.agg (na n (.slice (some ⟨g1, 0, none⟩) dl (dl + 1)) (.slice (some ⟨g2, 0, none⟩) ll (ll + 1)))) ∧ TwB w' g1 n.data ∧ TwE w' g2 n.list ∧ W.heap.size ≤ g1 ∧ g1 < w'.heap.size ∧ W.heap.size ≤ g2 ∧ g2 < w'.heap.size) ∧ Below W.heap.size W w') := fun hz W hW => twinNode_any n da dl dc la ll lc W hdl hll (hb.below hW) (hg.below hW) (by unfold nodeSz entTo at hz; omega) (by unfold nodeSz entTo at hz; omega)
  have HM := hide (fun d l W => may_any n d l e what W)
  have HR := hide (fun d l W => rmay_any n d l e what W)
  have HO := hide (fun d l W => owns_any n d l e W)
  have HP := hide (fun d l W => rowns_any n d l e W)
  have HL := hide lives_any
  obtain ⟨M, hM⟩ : ∃ M, M = mayP n e what := ⟨_, rfl⟩
  obtain ⟨O, hO⟩ : ∃ O, O = ownsP n e := ⟨_, rfl⟩
  rw [← hM] at HM HR
  rw [← hO] at HO HP
  have HY := hide hb
  have HG := hide hg
  have HD := hide hdl
  have HE := hide hll
  obtain ⟨n0, hn0⟩ : ∃ n0, Hid (n0 = n) := ⟨n, rfl⟩
  obtain ⟨sz, hsz⟩ : ∃ sz, Hid (sz = nodeSz n) := ⟨_, rfl⟩
  clear hb hg hr hM hO hdl hll
  rw [← unhide hsz] at HS HT
  obtain ⟨kd, md, us, gr, lk, ti, dt, tg, ls, pa⟩ := n
  obtain ⟨u, g, mk, dr⟩ := e
  unfold na ea at *
  simp only at *
  go_enter Try.func3, Try.ntmps3
  go_wp2_with fail
  refine (unhide HS _ (b2 w _ _)).mono ?_
  rintro r w1 ⟨⟨r, rfl, hr1, hr2⟩, b1⟩
  have HR2 := hide hr2
  have HB1 := hide ((b2 w (.cells #[.int .u8 kd.toNat, .int .i64 md, .int .i64 us, .int .i64 gr, .int .i64 lk, .int .i64 ti, .slice da dl dc, .string tg, .slice la ll lc, .int .i64 pa] 26) (.cells #[.int .i64 u, .int .i64 g, .int .i64 mk, .int .i64 dr] 28)).trans (b1.mono (by simp; omega)))
  have two := two_new w (.cells #[.int .u8 kd.toNat, .int .i64 md, .int .i64 us, .int .i64 gr, .int .i64 lk, .int .i64 ti, .slice da dl dc, .string tg, .slice la ll lc, .int .i64 pa] 26) (.cells #[.int .i64 u, .int .i64 g, .int .i64 mk, .int .i64 dr] 28)
  have N1 := hide ((b1.block _ (by simp; omega)).trans two.2.1)
  have N2 := hide ((b1.block _ (by simp)).trans two.2.2.1)
  clear two b1 hr2
  by_cases hq : r ≤ 100000
  · have hq' : ¬ (100000 : Int) < (r : Int) := by omega
    have hz := unhide HR2 (by omega)
    have HT2 := hide (unhide HT (by omega))
    have HZ : Hid (dl ≤ 1048576 ∧ ll ≤ 1048576) := by
      have h1 := unhide hsz
      have h2 := unhide HD
      have h3 := unhide HE
      unfold nodeSz entTo at h1
      simp only at h1
      constructor <;> omega
    clear HT HR2 hz
    obtain ⟨c0, c1, c2, c3, c4, c5, c6, c7, c8, c9⟩ := box10 (unhide N1)
    go_wp2_with fail
    refine (unhide HT2 _ (unhide HB1)).mono ?_
    rintro e w2 ⟨⟨g1, g2, rfl, t1, t2, s1, s2, s3, s4⟩, b2'⟩
    have HB2 := hide ((unhide HB1).trans (b2'.mono (unhide HB1).size))
    have M1 := hide ((b2'.block _ (Array.getElem?_eq_some_iff.1 (unhide N1)).1).trans (unhide N1))
    have M2 := hide ((b2'.block _ (Array.getElem?_eq_some_iff.1 (unhide N2)).1).trans (unhide N2))
    have HLN : Hid (∀ V, Below w2.heap.size w2 V → Calls Try.prog 15 #[.agg #[.int .u8 kd.toNat, .int .i64 md, .int .i64 us, .int .i64 gr, .int .i64 lk, .int .i64 ti, .slice (some ⟨g1, 0, none⟩) dl (dl + 1), .string tg, .slice (some ⟨g2, 0, none⟩) ll (ll + 1), .int .i64 pa], .agg #[.int .u8 kd.toNat, .int .i64 md, .int .i64 us, .int .i64 gr, .int .i64 lk, .int .i64 ti, .slice da dl dc, .string tg, .slice la ll lc, .int .i64 pa]] V fun e w' => e = .returned (.bool true) ∧ Below V.heap.size V w') := fun V hV =>
      leftNode_any ⟨kd, md, us, gr, lk, ti, dt, tg, ls, pa⟩ g1 g2 da dl dc la ll lc V (unhide HD) (unhide HE) ((unhide HY).below ((unhide HB2).trans (hV.mono (unhide HB2).size))) ((unhide HG).below ((unhide HB2).trans (hV.mono (unhide HB2).size))) (unhide HZ).1 (unhide HZ).2 (t1.below s2 hV) (t2.below s4 hV) (Nat.lt_of_lt_of_le s2 hV.size) (Nat.lt_of_lt_of_le s4 hV.size)
    clear b2' t1 t2 N1 N2 HB1 c0 c1 c2 c3 c4 c5 c6 c7 c8 c9 HT2 HS s1 s3 s2 s4 HY HG HD HE HZ
    go_wp2_with fail
    obtain ⟨N1, hN1⟩ : ∃ N, N = w.heap.size + 1 := ⟨_, rfl⟩
    obtain ⟨N2, hN2⟩ : ∃ N, N = w.heap.size := ⟨_, rfl⟩
    obtain ⟨N3, hN3⟩ : ∃ N, N = w2.heap.size := ⟨_, rfl⟩
    obtain ⟨wx, hwx⟩ : ∃ wx, wx = w2.alloc (.cells #[.int .u8 kd.toNat, .int .i64 md, .int .i64 us, .int .i64 gr, .int .i64 lk, .int .i64 ti, .slice (some ⟨g1, 0, none⟩) dl (dl + 1), .string tg, .slice (some ⟨g2, 0, none⟩) ll (ll + 1), .int .i64 pa] 26) := ⟨_, rfl⟩
    have hbx := b1 w2 (.cells #[.int .u8 kd.toNat, .int .i64 md, .int .i64 us, .int .i64 gr, .int .i64 lk, .int .i64 ti, .slice (some ⟨g1, 0, none⟩) dl (dl + 1), .string tg, .slice (some ⟨g2, 0, none⟩) ll (ll + 1), .int .i64 pa] 26)
    rw [← hwx] at hbx
    have bx : Below w2.heap.size w2 wx.drew := ⟨hbx.os, hbx.tape, hbx.output, hbx.size, hbx.block⟩
    have hPd : Pq w wx.drew N1 N2 N3 #[.int .u8 kd.toNat, .int .i64 md, .int .i64 us, .int .i64 gr, .int .i64 lk, .int .i64 ti, .slice da dl dc, .string tg, .slice la ll lc, .int .i64 pa] #[.int .u8 kd.toNat, .int .i64 md, .int .i64 us, .int .i64 gr, .int .i64 lk, .int .i64 ti, .slice (some ⟨g1, 0, none⟩) dl (dl + 1), .string tg, .slice (some ⟨g2, 0, none⟩) ll (ll + 1), .int .i64 pa] ⟨u, g, mk, dr⟩ := by
      refine ⟨(unhide HB2).trans (bx.mono (unhide HB2).size), ?_, ?_, ?_⟩
      · rw [hN1]; exact (bx.block _ (Array.getElem?_eq_some_iff.1 (unhide M2)).1).trans (unhide M2)
      · rw [hN2]; exact (bx.block _ (Array.getElem?_eq_some_iff.1 (unhide M1)).1).trans (unhide M1)
      · rw [hN3, hwx]; exact heap_alloc_new w2 _
    rw [← hN1, ← hN2, ← hN3, ← hwx]
    have hS1 := pq_cells hPd
    have HPd := hide hPd
    have HQd := hide bx
    clear hPd bx hbx hN1 hN2 hN3 hwx M1 M2
    go_region_held3 (fun w' => w'.cell? ⟨N2, 0, none⟩ = some (.int .u8 kd.toNat) ∧ w'.cell? ⟨N2, 1, none⟩ = some (.int .i64 md) ∧ w'.cell? ⟨N2, 2, none⟩ = some (.int .i64 us) ∧ w'.cell? ⟨N2, 3, none⟩ = some (.int .i64 gr) ∧ w'.cell? ⟨N2, 4, none⟩ = some (.int .i64 lk) ∧ w'.cell? ⟨N2, 5, none⟩ = some (.int .i64 ti) ∧ w'.cell? ⟨N2, 6, none⟩ = some (.slice da dl dc) ∧ w'.cell? ⟨N2, 7, none⟩ = some (.string tg) ∧ w'.cell? ⟨N2, 8, none⟩ = some (.slice la ll lc) ∧ w'.cell? ⟨N2, 9, none⟩ = some (.int .i64 pa) ∧ w'.cell? ⟨N3, 0, none⟩ = some (.int .u8 kd.toNat) ∧ w'.cell? ⟨N3, 1, none⟩ = some (.int .i64 md) ∧ w'.cell? ⟨N3, 2, none⟩ = some (.int .i64 us) ∧ w'.cell? ⟨N3, 3, none⟩ = some (.int .i64 gr) ∧ w'.cell? ⟨N3, 4, none⟩ = some (.int .i64 lk) ∧ w'.cell? ⟨N3, 5, none⟩ = some (.int .i64 ti) ∧ w'.cell? ⟨N3, 6, none⟩ = some (.slice (some ⟨g1, 0, none⟩) dl (dl + 1)) ∧ w'.cell? ⟨N3, 7, none⟩ = some (.string tg) ∧ w'.cell? ⟨N3, 8, none⟩ = some (.slice (some ⟨g2, 0, none⟩) ll (ll + 1)) ∧ w'.cell? ⟨N3, 9, none⟩ = some (.int .i64 pa) ∧ w'.cell? ⟨N1, 0, none⟩ = some (.int .i64 u) ∧ w'.cell? ⟨N1, 1, none⟩ = some (.int .i64 g) ∧ w'.cell? ⟨N1, 2, none⟩ = some (.int .i64 mk) ∧ w'.cell? ⟨N1, 3, none⟩ = some (.int .i64 dr)) (with_reducible assumption)
      (first
        | ((with_reducible refine (unhide HM _ _ _).mono ?_); rintro r w3 ⟨rfl, hb⟩; have HPe := hide ((unhide HPd).step hb); have HQe := hide ((unhide HQd).trans (hb.mono (unhide HQd).size)); have hS2 := pq_cells (unhide HPe); clear hb)
        | ((with_reducible refine (unhide HR _ _ _).mono ?_); rintro r w4 ⟨rfl, hb⟩; have HPf := hide ((unhide HPe).step hb); have HQf := hide ((unhide HQe).trans (hb.mono (unhide HQe).size)); have hS3 := pq_cells (unhide HPf); clear hb)
        | ((with_reducible refine (unhide HO _ _ _).mono ?_); rintro r w5 ⟨rfl, hb⟩; have HPg := hide ((unhide HPf).step hb); have HQg := hide ((unhide HQf).trans (hb.mono (unhide HQf).size)); have hS4 := pq_cells (unhide HPg); clear hb)
        | ((with_reducible refine (unhide HP _ _ _).mono ?_); rintro r w6 ⟨rfl, hb⟩; have HPh := hide ((unhide HPg).step hb); have HQh := hide ((unhide HQg).trans (hb.mono (unhide HQg).size)); have hS5 := pq_cells (unhide HPh); clear hb)
        | ((with_reducible refine (unhide HLN _ (unhide HQh)).mono ?_); rintro r w7 ⟨rfl, hb⟩; have HPi := hide ((unhide HPh).step hb); have hS6 := pq_cells (unhide HPi); clear hb)
        | ((with_reducible refine (unhide HL _).mono ?_); rintro r w8 ⟨rfl, hb⟩; have HPj := hide ((unhide HPi).step hb); have hS7 := pq_cells (unhide HPj); clear hb)
        | fail)
    have HF := hide (unhide HPj).below
    clear hS1 hS2 hS3 hS4 hS5 hS6 hS7 HPd HPe HPf HPg HPh HPi HPj HQd HQe HQf HQg HQh
    go_wp2
    go_ret
    exact ⟨rfl, unhide HF⟩
  · have hq' : (100000 : Int) < (r : Int) := by omega
    go_wp2_with fail
    refine (unhide HL _).mono ?_
    rintro r w' ⟨rfl, hb⟩
    have HB := hide ((unhide HB1).trans (hb.mono (unhide HB1).size))
    clear hb
    go_wp2_with fail
    go_ret
    exact ⟨rfl, unhide HB⟩
end Go.Proofs.Ytngljliollbcnaa.Pm
