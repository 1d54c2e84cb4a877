/- PermsClass walked. -/
import Derived.Test.YtngljliollbcnaaPmMoreW
import Derived.Deep.RegionHeld3
namespace Go.Proofs.Ytngljliollbcnaa.Pm
open Go.RowKit Go.Proofs.Ytngljliollbcnaa.Cu Go.Proofs.Ytngljliollbcnaa.Tr

theorem mayP_bits {n n' : Nd} {e : Ev} (hk : n.kind = n'.kind) (hu : e.user ≠ 0) (hb : bitsP n e = bitsP n' e) (what : Int) : mayP n e what = mayP n' e what := by
  unfold mayP
  rw [hk, if_neg hu, if_neg hu, hb]
theorem wr64 (x : Int) (h0 : 0 ≤ x) (h1 : x < 1000) : wrap64 x = x := by unfold wrap64; omega
theorem pq_cells {w W : World} {N1 N2 N3 : Nat} {A0 A1 A2 A3 A4 A5 A6 A7 A8 A9 B0 B1 B2 B3 B4 B5 B6 B7 B8 B9 : Value} {u g m d : Int} (h : Pq w W N1 N2 N3 #[A0, A1, A2, A3, A4, A5, A6, A7, A8, A9] #[B0, B1, B2, B3, B4, B5, B6, B7, B8, B9] ⟨u, g, m, d⟩) :
    W.cell? ⟨N2, 0, none⟩ = some (A0) ∧ W.cell? ⟨N2, 1, none⟩ = some (A1) ∧ W.cell? ⟨N2, 2, none⟩ = some (A2) ∧ W.cell? ⟨N2, 3, none⟩ = some (A3) ∧ W.cell? ⟨N2, 4, none⟩ = some (A4) ∧ W.cell? ⟨N2, 5, none⟩ = some (A5) ∧ W.cell? ⟨N2, 6, none⟩ = some (A6) ∧ W.cell? ⟨N2, 7, none⟩ = some (A7) ∧ W.cell? ⟨N2, 8, none⟩ = some (A8) ∧ W.cell? ⟨N2, 9, none⟩ = some (A9) ∧ W.cell? ⟨N3, 0, none⟩ = some (B0) ∧ W.cell? ⟨N3, 1, none⟩ = some (B1) ∧ W.cell? ⟨N3, 2, none⟩ = some (B2) ∧ W.cell? ⟨N3, 3, none⟩ = some (B3) ∧ W.cell? ⟨N3, 4, none⟩ = some (B4) ∧ W.cell? ⟨N3, 5, none⟩ = some (B5) ∧ W.cell? ⟨N3, 6, none⟩ = some (B6) ∧ W.cell? ⟨N3, 7, none⟩ = some (B7) ∧ W.cell? ⟨N3, 8, none⟩ = some (B8) ∧ W.cell? ⟨N3, 9, none⟩ = some (B9) ∧ W.cell? ⟨N1, 0, none⟩ = some (.int .i64 u) ∧ W.cell? ⟨N1, 1, none⟩ = some (.int .i64 g) ∧ W.cell? ⟨N1, 2, none⟩ = some (.int .i64 m) ∧ W.cell? ⟨N1, 3, none⟩ = some (.int .i64 d) := by
  obtain ⟨c0, c1, c2, c3, c4, c5, c6, c7, c8, c9⟩ := box10 h.node
  obtain ⟨d0, d1, d2, d3, d4, d5, d6, d7, d8, d9⟩ := box10 h.other
  obtain ⟨e0, e1, e2, e3⟩ := box4 h.env
  exact ⟨c0, c1, c2, c3, c4, c5, c6, c7, c8, c9, d0, d1, d2, d3, d4, d5, d6, d7, d8, d9, e0, e1, e2, e3⟩
set_option maxRecDepth 100000 in
set_option maxHeartbeats 1000000 in
theorem class2 (k m o u g : Nat) (hk : k < 256) (hm : m < 65536) (hu : u < 65536) (hg : g < 65536) (gr mk dr : Int) (w : World) (h0 : ¬ (u : Int) = 0) :
    Calls Try.prog 7 #[.agg #[.int .u8 k, .int .u16 m, .int .u16 o, .int .u16 u, .int .u16 g, .int .i64 (u : Int), .int .i64 gr, .int .i64 mk, .int .i64 dr]] w fun r w' => r = .returned (.bool true) ∧ Below w.heap.size w w' := by
  have HL := hide lives_any
  have HM : Hid (∀ (md what : Int) (W : World), Calls Try.prog 11 #[.agg #[.int .u8 (1 + (k : Int) % 3), .int .i64 md, .int .i64 u, .int .i64 g, .int .i64 0, .int .i64 0, .slice none 0 0, .string ⟨#[]⟩, .slice none 0 0, .int .i64 0], .agg #[.int .i64 (u : Int), .int .i64 gr, .int .i64 mk, .int .i64 dr], .int .i64 what] W fun r w' => r = .returned (.bool (mayP ⟨UInt8.ofNat (1 + k % 3), md, u, g, 0, 0, [], ⟨#[]⟩, [], 0⟩ ⟨(u : Int), gr, mk, dr⟩ what)) ∧ Below W.heap.size W w') := fun md what W => by
    rw [← kind_of k]
    exact may_any ⟨UInt8.ofNat (1 + k % 3), md, u, g, 0, 0, [], ⟨#[]⟩, [], 0⟩ (.slice none 0 0) (.slice none 0 0) ⟨(u : Int), gr, mk, dr⟩ what W
  obtain ⟨M, hMe⟩ : ∃ M : Int, M = (m : Int) % 512 := ⟨_, rfl⟩
  obtain ⟨M2, hM2⟩ : ∃ M2 : Int, M2 = wrap64 (bits .and .i64 ((m : Int) % 512 / 64) 7 * 64) := ⟨_, rfl⟩
  have HE : Hid (∀ what, mayP ⟨UInt8.ofNat (1 + k % 3), M2, u, g, 0, 0, [], ⟨#[]⟩, [], 0⟩ ⟨(u : Int), gr, mk, dr⟩ what = mayP ⟨UInt8.ofNat (1 + k % 3), M, u, g, 0, 0, [], ⟨#[]⟩, [], 0⟩ ⟨(u : Int), gr, mk, dr⟩ what) := fun what => by
    refine mayP_bits (n := ⟨UInt8.ofNat (1 + k % 3), M2, u, g, 0, 0, [], ⟨#[]⟩, [], 0⟩) (n' := ⟨UInt8.ofNat (1 + k % 3), M, u, g, 0, 0, [], ⟨#[]⟩, [], 0⟩) (e := ⟨(u : Int), gr, mk, dr⟩) rfl h0 ?_ what
    have hv : M2 = ((m : Int) % 512 / 64) % 8 * 64 := by rw [hM2, Mo.and7, wr64 _ (by omega) (by omega)]
    unfold bitsP
    simp only [if_true]
    rw [hv, hMe]
    omega
  obtain ⟨mp, hmp⟩ : ∃ mp, mp = mayP ⟨UInt8.ofNat (1 + k % 3), M, u, g, 0, 0, [], ⟨#[]⟩, [], 0⟩ ⟨(u : Int), gr, mk, dr⟩ := ⟨_, rfl⟩
  have hm1 : ∀ what, mayP ⟨UInt8.ofNat (1 + k % 3), M, u, g, 0, 0, [], ⟨#[]⟩, [], 0⟩ ⟨(u : Int), gr, mk, dr⟩ what = mp what := fun what => by rw [hmp]
  have hm2 : ∀ what, mayP ⟨UInt8.ofNat (1 + k % 3), M2, u, g, 0, 0, [], ⟨#[]⟩, [], 0⟩ ⟨(u : Int), gr, mk, dr⟩ what = mp what := fun what => (unhide HE what).trans (hm1 what)
  have HM1 := hide (unhide HM M)
  have HM2 := hide (unhide HM M2)
  simp only [hm1] at HM1
  simp only [hm2] at HM2
  clear hmp HM hm1 hm2 HE
  have HP0 := hide (pq_new w (.cells #[.int .u8 k, .int .u16 m, .int .u16 o, .int .u16 u, .int .u16 g, .int .i64 (u : Int), .int .i64 gr, .int .i64 mk, .int .i64 dr] 44) ⟨(u : Int), gr, mk, dr⟩ #[.int .u8 (1 + (k : Int) % 3), .int .i64 M, .int .i64 u, .int .i64 g, .int .i64 0, .int .i64 0, .slice none 0 0, .string ⟨#[]⟩, .slice none 0 0, .int .i64 0] #[.int .u8 (1 + (k : Int) % 3), .int .i64 M2, .int .i64 u, .int .i64 g, .int .i64 0, .int .i64 0, .slice none 0 0, .string ⟨#[]⟩, .slice none 0 0, .int .i64 0])
  unfold ea at *
  simp only at *
  have hz0 : ((u : Int) == 0) = false := by simpa using h0
  clear h0
  have hMe' := hide hMe
  have hM2' := hide hM2
  clear hMe hM2
  go_enter Try.func7, Try.ntmps7
  go_wp2_with fail
  rw [← unhide hM2', ← unhide hMe']
  clear hM2' hMe'
  obtain ⟨N1, hN1⟩ : ∃ N, N = w.heap.size + 1 := ⟨_, rfl⟩
  obtain ⟨N2, hN2⟩ : ∃ N, N = w.heap.size + 1 + 1 := ⟨_, rfl⟩
  obtain ⟨N3, hN3⟩ : ∃ N, N = w.heap.size + 1 + 1 + 1 := ⟨_, rfl⟩
  rw [← hN3, ← hN2, ← hN1] at HP0
  rw [← hN3, ← hN2, ← hN1]
  clear hN1 hN2 hN3
  go_loopw [7] (fun i wr => ∃ (a : Nat), 1 ≤ a ∧ a ≤ 8 ∧ i = .int .i64 a ∧ Hid (Pq w wr N1 N2 N3 #[.int .u8 (1 + (k : Int) % 3), .int .i64 M, .int .i64 u, .int .i64 g, .int .i64 0, .int .i64 0, .slice none 0 0, .string ⟨#[]⟩, .slice none 0 0, .int .i64 0] #[.int .u8 (1 + (k : Int) % 3), .int .i64 M2, .int .i64 u, .int .i64 g, .int .i64 0, .int .i64 0, .slice none 0 0, .string ⟨#[]⟩, .slice none 0 0, .int .i64 0] ⟨(u : Int), gr, mk, dr⟩)) (fun i _ => 8 - (intOf i).toNat)
  case atStart => exact ⟨1, by omega, by omega, rfl, HP0⟩
  case round =>
    obtain ⟨a, ha1, ha8, rfl, HP⟩ := hrel
    by_cases hlt : a < 8
    · go_wp2_with fail
      have hPd : Pq w wr.drew N1 N2 N3 #[.int .u8 (1 + (k : Int) % 3), .int .i64 M, .int .i64 u, .int .i64 g, .int .i64 0, .int .i64 0, .slice none 0 0, .string ⟨#[]⟩, .slice none 0 0, .int .i64 0] #[.int .u8 (1 + (k : Int) % 3), .int .i64 M2, .int .i64 u, .int .i64 g, .int .i64 0, .int .i64 0, .slice none 0 0, .string ⟨#[]⟩, .slice none 0 0, .int .i64 0] ⟨(u : Int), gr, mk, dr⟩ := ⟨⟨(unhide HP).below.os, (unhide HP).below.tape, (unhide HP).below.output, (unhide HP).below.size, (unhide HP).below.block⟩, (unhide HP).env, (unhide HP).node, (unhide HP).other⟩
      have hS1 := pq_cells hPd
      have HPd := hide hPd
      clear hPd HP
      go_region_held3 (fun w' => w'.cell? ⟨N2, 0, none⟩ = some (.int .u8 (1 + (k : Int) % 3)) ∧ w'.cell? ⟨N2, 1, none⟩ = some (.int .i64 M) ∧ w'.cell? ⟨N2, 2, none⟩ = some (.int .i64 u) ∧ w'.cell? ⟨N2, 3, none⟩ = some (.int .i64 g) ∧ w'.cell? ⟨N2, 4, none⟩ = some (.int .i64 0) ∧ w'.cell? ⟨N2, 5, none⟩ = some (.int .i64 0) ∧ w'.cell? ⟨N2, 6, none⟩ = some (.slice none 0 0) ∧ w'.cell? ⟨N2, 7, none⟩ = some (.string ⟨#[]⟩) ∧ w'.cell? ⟨N2, 8, none⟩ = some (.slice none 0 0) ∧ w'.cell? ⟨N2, 9, none⟩ = some (.int .i64 0) ∧ w'.cell? ⟨N3, 0, none⟩ = some (.int .u8 (1 + (k : Int) % 3)) ∧ w'.cell? ⟨N3, 1, none⟩ = some (.int .i64 M2) ∧ w'.cell? ⟨N3, 2, none⟩ = some (.int .i64 u) ∧ w'.cell? ⟨N3, 3, none⟩ = some (.int .i64 g) ∧ w'.cell? ⟨N3, 4, none⟩ = some (.int .i64 0) ∧ w'.cell? ⟨N3, 5, none⟩ = some (.int .i64 0) ∧ w'.cell? ⟨N3, 6, none⟩ = some (.slice none 0 0) ∧ w'.cell? ⟨N3, 7, none⟩ = some (.string ⟨#[]⟩) ∧ w'.cell? ⟨N3, 8, none⟩ = some (.slice none 0 0) ∧ w'.cell? ⟨N3, 9, none⟩ = some (.int .i64 0) ∧ w'.cell? ⟨N1, 0, none⟩ = some (.int .i64 (u : Int)) ∧ w'.cell? ⟨N1, 1, none⟩ = some (.int .i64 gr) ∧ w'.cell? ⟨N1, 2, none⟩ = some (.int .i64 mk) ∧ w'.cell? ⟨N1, 3, none⟩ = some (.int .i64 dr)) (with_reducible assumption)
        (first
          | ((with_reducible refine (unhide HM1 a _).mono ?_); rintro r w1 ⟨rfl, hb⟩; have HPe := hide ((unhide HPd).step hb); have hS2 := pq_cells (unhide HPe); clear hb)
          | ((with_reducible refine (unhide HM2 a _).mono ?_); rintro r w2 ⟨rfl, hb⟩; have HPf := hide ((unhide HPe).step hb); have hS3 := pq_cells (unhide HPf); clear hb)
          | fail)
      obtain ⟨q, hq⟩ : ∃ q, q = mp a := ⟨_, rfl⟩
      rw [← hq]
      clear hq hS1 hS2 hS3 HPd HPe
      cases q
      all_goals
        go_wp2_with fail
        go_roundw
        case rel => exact ⟨a + 1, by omega, by omega, by go_num, HPf⟩
        case measure => simp [intOf]; omega
    · have h8 : a = 8 := by omega
      subst h8
      go_wp2_with fail
      refine (unhide HL _).mono ?_
      rintro r w' ⟨rfl, hb⟩
      have HB := hide ((unhide HP).step hb).below
      clear hb
      go_wp2_with fail
      go_ret
      exact ⟨rfl, unhide HB⟩
set_option maxRecDepth 100000 in
set_option maxHeartbeats 1000000 in
theorem class1 (k m o u g : Nat) (hk : k < 256) (hm : m < 65536) (hu : u < 65536) (hg : g < 65536) (us mk dr : Int) (w : World) (h0 : ¬ us = 0) (h1 : ¬ us = (u : Int)) :
    Calls Try.prog 7 #[.agg #[.int .u8 k, .int .u16 m, .int .u16 o, .int .u16 u, .int .u16 g, .int .i64 us, .int .i64 (g : Int), .int .i64 mk, .int .i64 dr]] w fun r w' => r = .returned (.bool true) ∧ Below w.heap.size w w' := by
  have HL := hide lives_any
  have HM : Hid (∀ (md what : Int) (W : World), Calls Try.prog 11 #[.agg #[.int .u8 (1 + (k : Int) % 3), .int .i64 md, .int .i64 u, .int .i64 g, .int .i64 0, .int .i64 0, .slice none 0 0, .string ⟨#[]⟩, .slice none 0 0, .int .i64 0], .agg #[.int .i64 us, .int .i64 (g : Int), .int .i64 mk, .int .i64 dr], .int .i64 what] W fun r w' => r = .returned (.bool (mayP ⟨UInt8.ofNat (1 + k % 3), md, u, g, 0, 0, [], ⟨#[]⟩, [], 0⟩ ⟨us, (g : Int), mk, dr⟩ what)) ∧ Below W.heap.size W w') := fun md what W => by
    rw [← kind_of k]
    exact may_any ⟨UInt8.ofNat (1 + k % 3), md, u, g, 0, 0, [], ⟨#[]⟩, [], 0⟩ (.slice none 0 0) (.slice none 0 0) ⟨us, (g : Int), mk, dr⟩ what W
  obtain ⟨M, hMe⟩ : ∃ M : Int, M = (m : Int) % 512 := ⟨_, rfl⟩
  obtain ⟨M2, hM2⟩ : ∃ M2 : Int, M2 = wrap64 (bits .and .i64 ((m : Int) % 512 / 8) 7 * 8) := ⟨_, rfl⟩
  have HE : Hid (∀ what, mayP ⟨UInt8.ofNat (1 + k % 3), M2, u, g, 0, 0, [], ⟨#[]⟩, [], 0⟩ ⟨us, (g : Int), mk, dr⟩ what = mayP ⟨UInt8.ofNat (1 + k % 3), M, u, g, 0, 0, [], ⟨#[]⟩, [], 0⟩ ⟨us, (g : Int), mk, dr⟩ what) := fun what => by
    refine mayP_bits (n := ⟨UInt8.ofNat (1 + k % 3), M2, u, g, 0, 0, [], ⟨#[]⟩, [], 0⟩) (n' := ⟨UInt8.ofNat (1 + k % 3), M, u, g, 0, 0, [], ⟨#[]⟩, [], 0⟩) (e := ⟨us, (g : Int), mk, dr⟩) rfl h0 ?_ what
    have hv : M2 = ((m : Int) % 512 / 8) % 8 * 8 := by rw [hM2, Mo.and7, wr64 _ (by omega) (by omega)]
    unfold bitsP
    simp only [h1, if_false, if_true]
    rw [hv, hMe]
    omega
  obtain ⟨mp, hmp⟩ : ∃ mp, mp = mayP ⟨UInt8.ofNat (1 + k % 3), M, u, g, 0, 0, [], ⟨#[]⟩, [], 0⟩ ⟨us, (g : Int), mk, dr⟩ := ⟨_, rfl⟩
  have hm1 : ∀ what, mayP ⟨UInt8.ofNat (1 + k % 3), M, u, g, 0, 0, [], ⟨#[]⟩, [], 0⟩ ⟨us, (g : Int), mk, dr⟩ what = mp what := fun what => by rw [hmp]
  have hm2 : ∀ what, mayP ⟨UInt8.ofNat (1 + k % 3), M2, u, g, 0, 0, [], ⟨#[]⟩, [], 0⟩ ⟨us, (g : Int), mk, dr⟩ what = mp what := fun what => (unhide HE what).trans (hm1 what)
  have HM1 := hide (unhide HM M)
  have HM2 := hide (unhide HM M2)
  simp only [hm1] at HM1
  simp only [hm2] at HM2
  clear hmp HM hm1 hm2 HE
  have HP0 := hide (pq_new w (.cells #[.int .u8 k, .int .u16 m, .int .u16 o, .int .u16 u, .int .u16 g, .int .i64 us, .int .i64 (g : Int), .int .i64 mk, .int .i64 dr] 44) ⟨us, (g : Int), mk, dr⟩ #[.int .u8 (1 + (k : Int) % 3), .int .i64 M, .int .i64 u, .int .i64 g, .int .i64 0, .int .i64 0, .slice none 0 0, .string ⟨#[]⟩, .slice none 0 0, .int .i64 0] #[.int .u8 (1 + (k : Int) % 3), .int .i64 M2, .int .i64 u, .int .i64 g, .int .i64 0, .int .i64 0, .slice none 0 0, .string ⟨#[]⟩, .slice none 0 0, .int .i64 0])
  unfold ea at *
  simp only at *
  have hz0 : (us == 0) = false := by simpa using h0
  have hz1 : (us == (u : Int)) = false := by simpa using h1
  clear h0 h1
  have hMe' := hide hMe
  have hM2' := hide hM2
  clear hMe hM2
  go_enter Try.func7, Try.ntmps7
  go_wp2_with fail
  rw [← unhide hM2', ← unhide hMe']
  clear hM2' hMe'
  obtain ⟨N1, hN1⟩ : ∃ N, N = w.heap.size + 1 := ⟨_, rfl⟩
  obtain ⟨N2, hN2⟩ : ∃ N, N = w.heap.size + 1 + 1 := ⟨_, rfl⟩
  obtain ⟨N3, hN3⟩ : ∃ N, N = w.heap.size + 1 + 1 + 1 := ⟨_, rfl⟩
  rw [← hN3, ← hN2, ← hN1] at HP0
  rw [← hN3, ← hN2, ← hN1]
  clear hN1 hN2 hN3
  go_loopw [7] (fun i wr => ∃ (a : Nat), 1 ≤ a ∧ a ≤ 8 ∧ i = .int .i64 a ∧ Hid (Pq w wr N1 N2 N3 #[.int .u8 (1 + (k : Int) % 3), .int .i64 M, .int .i64 u, .int .i64 g, .int .i64 0, .int .i64 0, .slice none 0 0, .string ⟨#[]⟩, .slice none 0 0, .int .i64 0] #[.int .u8 (1 + (k : Int) % 3), .int .i64 M2, .int .i64 u, .int .i64 g, .int .i64 0, .int .i64 0, .slice none 0 0, .string ⟨#[]⟩, .slice none 0 0, .int .i64 0] ⟨us, (g : Int), mk, dr⟩)) (fun i _ => 8 - (intOf i).toNat)
  case atStart => exact ⟨1, by omega, by omega, rfl, HP0⟩
  case round =>
    obtain ⟨a, ha1, ha8, rfl, HP⟩ := hrel
    by_cases hlt : a < 8
    · go_wp2_with fail
      have hPd : Pq w wr.drew N1 N2 N3 #[.int .u8 (1 + (k : Int) % 3), .int .i64 M, .int .i64 u, .int .i64 g, .int .i64 0, .int .i64 0, .slice none 0 0, .string ⟨#[]⟩, .slice none 0 0, .int .i64 0] #[.int .u8 (1 + (k : Int) % 3), .int .i64 M2, .int .i64 u, .int .i64 g, .int .i64 0, .int .i64 0, .slice none 0 0, .string ⟨#[]⟩, .slice none 0 0, .int .i64 0] ⟨us, (g : Int), mk, dr⟩ := ⟨⟨(unhide HP).below.os, (unhide HP).below.tape, (unhide HP).below.output, (unhide HP).below.size, (unhide HP).below.block⟩, (unhide HP).env, (unhide HP).node, (unhide HP).other⟩
      have hS1 := pq_cells hPd
      have HPd := hide hPd
      clear hPd HP
      go_region_held3 (fun w' => w'.cell? ⟨N2, 0, none⟩ = some (.int .u8 (1 + (k : Int) % 3)) ∧ w'.cell? ⟨N2, 1, none⟩ = some (.int .i64 M) ∧ w'.cell? ⟨N2, 2, none⟩ = some (.int .i64 u) ∧ w'.cell? ⟨N2, 3, none⟩ = some (.int .i64 g) ∧ w'.cell? ⟨N2, 4, none⟩ = some (.int .i64 0) ∧ w'.cell? ⟨N2, 5, none⟩ = some (.int .i64 0) ∧ w'.cell? ⟨N2, 6, none⟩ = some (.slice none 0 0) ∧ w'.cell? ⟨N2, 7, none⟩ = some (.string ⟨#[]⟩) ∧ w'.cell? ⟨N2, 8, none⟩ = some (.slice none 0 0) ∧ w'.cell? ⟨N2, 9, none⟩ = some (.int .i64 0) ∧ w'.cell? ⟨N3, 0, none⟩ = some (.int .u8 (1 + (k : Int) % 3)) ∧ w'.cell? ⟨N3, 1, none⟩ = some (.int .i64 M2) ∧ w'.cell? ⟨N3, 2, none⟩ = some (.int .i64 u) ∧ w'.cell? ⟨N3, 3, none⟩ = some (.int .i64 g) ∧ w'.cell? ⟨N3, 4, none⟩ = some (.int .i64 0) ∧ w'.cell? ⟨N3, 5, none⟩ = some (.int .i64 0) ∧ w'.cell? ⟨N3, 6, none⟩ = some (.slice none 0 0) ∧ w'.cell? ⟨N3, 7, none⟩ = some (.string ⟨#[]⟩) ∧ w'.cell? ⟨N3, 8, none⟩ = some (.slice none 0 0) ∧ w'.cell? ⟨N3, 9, none⟩ = some (.int .i64 0) ∧ w'.cell? ⟨N1, 0, none⟩ = some (.int .i64 us) ∧ w'.cell? ⟨N1, 1, none⟩ = some (.int .i64 (g : Int)) ∧ w'.cell? ⟨N1, 2, none⟩ = some (.int .i64 mk) ∧ w'.cell? ⟨N1, 3, none⟩ = some (.int .i64 dr)) (with_reducible assumption)
        (first
          | ((with_reducible refine (unhide HM1 a _).mono ?_); rintro r w1 ⟨rfl, hb⟩; have HPe := hide ((unhide HPd).step hb); have hS2 := pq_cells (unhide HPe); clear hb)
          | ((with_reducible refine (unhide HM2 a _).mono ?_); rintro r w2 ⟨rfl, hb⟩; have HPf := hide ((unhide HPe).step hb); have hS3 := pq_cells (unhide HPf); clear hb)
          | fail)
      obtain ⟨q, hq⟩ : ∃ q, q = mp a := ⟨_, rfl⟩
      rw [← hq]
      clear hq hS1 hS2 hS3 HPd HPe
      cases q
      all_goals
        go_wp2_with fail
        go_roundw
        case rel => exact ⟨a + 1, by omega, by omega, by go_num, HPf⟩
        case measure => simp [intOf]; omega
    · have h8 : a = 8 := by omega
      subst h8
      go_wp2_with fail
      refine (unhide HL _).mono ?_
      rintro r w' ⟨rfl, hb⟩
      have HB := hide ((unhide HP).step hb).below
      clear hb
      go_wp2_with fail
      go_ret
      exact ⟨rfl, unhide HB⟩
set_option maxRecDepth 100000 in
set_option maxHeartbeats 1000000 in
theorem class0 (k m o u g : Nat) (hk : k < 256) (hm : m < 65536) (hu : u < 65536) (hg : g < 65536) (us gr mk dr : Int) (w : World) (h0 : ¬ us = 0) (h1 : ¬ us = (u : Int)) (h2 : ¬ gr = (g : Int)) :
    Calls Try.prog 7 #[.agg #[.int .u8 k, .int .u16 m, .int .u16 o, .int .u16 u, .int .u16 g, .int .i64 us, .int .i64 gr, .int .i64 mk, .int .i64 dr]] w fun r w' => r = .returned (.bool true) ∧ Below w.heap.size w w' := by
  have HL := hide lives_any
  have HM : Hid (∀ (md what : Int) (W : World), Calls Try.prog 11 #[.agg #[.int .u8 (1 + (k : Int) % 3), .int .i64 md, .int .i64 u, .int .i64 g, .int .i64 0, .int .i64 0, .slice none 0 0, .string ⟨#[]⟩, .slice none 0 0, .int .i64 0], .agg #[.int .i64 us, .int .i64 gr, .int .i64 mk, .int .i64 dr], .int .i64 what] W fun r w' => r = .returned (.bool (mayP ⟨UInt8.ofNat (1 + k % 3), md, u, g, 0, 0, [], ⟨#[]⟩, [], 0⟩ ⟨us, gr, mk, dr⟩ what)) ∧ Below W.heap.size W w') := fun md what W => by
    rw [← kind_of k]
    exact may_any ⟨UInt8.ofNat (1 + k % 3), md, u, g, 0, 0, [], ⟨#[]⟩, [], 0⟩ (.slice none 0 0) (.slice none 0 0) ⟨us, gr, mk, dr⟩ what W
  obtain ⟨M, hMe⟩ : ∃ M : Int, M = (m : Int) % 512 := ⟨_, rfl⟩
  obtain ⟨M2, hM2⟩ : ∃ M2 : Int, M2 = wrap64 (bits .and .i64 ((m : Int) % 512) 7) := ⟨_, rfl⟩
  have HE : Hid (∀ what, mayP ⟨UInt8.ofNat (1 + k % 3), M2, u, g, 0, 0, [], ⟨#[]⟩, [], 0⟩ ⟨us, gr, mk, dr⟩ what = mayP ⟨UInt8.ofNat (1 + k % 3), M, u, g, 0, 0, [], ⟨#[]⟩, [], 0⟩ ⟨us, gr, mk, dr⟩ what) := fun what => by
    refine mayP_bits (n := ⟨UInt8.ofNat (1 + k % 3), M2, u, g, 0, 0, [], ⟨#[]⟩, [], 0⟩) (n' := ⟨UInt8.ofNat (1 + k % 3), M, u, g, 0, 0, [], ⟨#[]⟩, [], 0⟩) (e := ⟨us, gr, mk, dr⟩) rfl h0 ?_ what
    have hv : M2 = (m : Int) % 512 % 8 := by rw [hM2, Mo.and7, wr64 _ (by omega) (by omega)]
    unfold bitsP
    simp only [h1, h2, if_false]
    rw [hv, hMe]
    omega
  obtain ⟨mp, hmp⟩ : ∃ mp, mp = mayP ⟨UInt8.ofNat (1 + k % 3), M, u, g, 0, 0, [], ⟨#[]⟩, [], 0⟩ ⟨us, gr, mk, dr⟩ := ⟨_, rfl⟩
  have hm1 : ∀ what, mayP ⟨UInt8.ofNat (1 + k % 3), M, u, g, 0, 0, [], ⟨#[]⟩, [], 0⟩ ⟨us, gr, mk, dr⟩ what = mp what := fun what => by rw [hmp]
  have hm2 : ∀ what, mayP ⟨UInt8.ofNat (1 + k % 3), M2, u, g, 0, 0, [], ⟨#[]⟩, [], 0⟩ ⟨us, gr, mk, dr⟩ what = mp what := fun what => (unhide HE what).trans (hm1 what)
  have HM1 := hide (unhide HM M)
  have HM2 := hide (unhide HM M2)
  simp only [hm1] at HM1
  simp only [hm2] at HM2
  clear hmp HM hm1 hm2 HE
  have HP0 := hide (pq_new w (.cells #[.int .u8 k, .int .u16 m, .int .u16 o, .int .u16 u, .int .u16 g, .int .i64 us, .int .i64 gr, .int .i64 mk, .int .i64 dr] 44) ⟨us, gr, mk, dr⟩ #[.int .u8 (1 + (k : Int) % 3), .int .i64 M, .int .i64 u, .int .i64 g, .int .i64 0, .int .i64 0, .slice none 0 0, .string ⟨#[]⟩, .slice none 0 0, .int .i64 0] #[.int .u8 (1 + (k : Int) % 3), .int .i64 M2, .int .i64 u, .int .i64 g, .int .i64 0, .int .i64 0, .slice none 0 0, .string ⟨#[]⟩, .slice none 0 0, .int .i64 0])
  unfold ea at *
  simp only at *
  have hz0 : (us == 0) = false := by simpa using h0
  have hz1 : (us == (u : Int)) = false := by simpa using h1
  have hz2 : (gr == (g : Int)) = false := by simpa using h2
  clear h0 h1 h2
  have hMe' := hide hMe
  have hM2' := hide hM2
  clear hMe hM2
  go_enter Try.func7, Try.ntmps7
  go_wp2_with fail
  rw [← unhide hM2', ← unhide hMe']
  clear hM2' hMe'
  obtain ⟨N1, hN1⟩ : ∃ N, N = w.heap.size + 1 := ⟨_, rfl⟩
  obtain ⟨N2, hN2⟩ : ∃ N, N = w.heap.size + 1 + 1 := ⟨_, rfl⟩
  obtain ⟨N3, hN3⟩ : ∃ N, N = w.heap.size + 1 + 1 + 1 := ⟨_, rfl⟩
  rw [← hN3, ← hN2, ← hN1] at HP0
  rw [← hN3, ← hN2, ← hN1]
  clear hN1 hN2 hN3
  go_loopw [7] (fun i wr => ∃ (a : Nat), 1 ≤ a ∧ a ≤ 8 ∧ i = .int .i64 a ∧ Hid (Pq w wr N1 N2 N3 #[.int .u8 (1 + (k : Int) % 3), .int .i64 M, .int .i64 u, .int .i64 g, .int .i64 0, .int .i64 0, .slice none 0 0, .string ⟨#[]⟩, .slice none 0 0, .int .i64 0] #[.int .u8 (1 + (k : Int) % 3), .int .i64 M2, .int .i64 u, .int .i64 g, .int .i64 0, .int .i64 0, .slice none 0 0, .string ⟨#[]⟩, .slice none 0 0, .int .i64 0] ⟨us, gr, mk, dr⟩)) (fun i _ => 8 - (intOf i).toNat)
  case atStart => exact ⟨1, by omega, by omega, rfl, HP0⟩
  case round =>
    obtain ⟨a, ha1, ha8, rfl, HP⟩ := hrel
    by_cases hlt : a < 8
    · go_wp2_with fail
      have hPd : Pq w wr.drew N1 N2 N3 #[.int .u8 (1 + (k : Int) % 3), .int .i64 M, .int .i64 u, .int .i64 g, .int .i64 0, .int .i64 0, .slice none 0 0, .string ⟨#[]⟩, .slice none 0 0, .int .i64 0] #[.int .u8 (1 + (k : Int) % 3), .int .i64 M2, .int .i64 u, .int .i64 g, .int .i64 0, .int .i64 0, .slice none 0 0, .string ⟨#[]⟩, .slice none 0 0, .int .i64 0] ⟨us, gr, mk, dr⟩ := ⟨⟨(unhide HP).below.os, (unhide HP).below.tape, (unhide HP).below.output, (unhide HP).below.size, (unhide HP).below.block⟩, (unhide HP).env, (unhide HP).node, (unhide HP).other⟩
      have hS1 := pq_cells hPd
      have HPd := hide hPd
      clear hPd HP
      go_region_held3 (fun w' => w'.cell? ⟨N2, 0, none⟩ = some (.int .u8 (1 + (k : Int) % 3)) ∧ w'.cell? ⟨N2, 1, none⟩ = some (.int .i64 M) ∧ w'.cell? ⟨N2, 2, none⟩ = some (.int .i64 u) ∧ w'.cell? ⟨N2, 3, none⟩ = some (.int .i64 g) ∧ w'.cell? ⟨N2, 4, none⟩ = some (.int .i64 0) ∧ w'.cell? ⟨N2, 5, none⟩ = some (.int .i64 0) ∧ w'.cell? ⟨N2, 6, none⟩ = some (.slice none 0 0) ∧ w'.cell? ⟨N2, 7, none⟩ = some (.string ⟨#[]⟩) ∧ w'.cell? ⟨N2, 8, none⟩ = some (.slice none 0 0) ∧ w'.cell? ⟨N2, 9, none⟩ = some (.int .i64 0) ∧ w'.cell? ⟨N3, 0, none⟩ = some (.int .u8 (1 + (k : Int) % 3)) ∧ w'.cell? ⟨N3, 1, none⟩ = some (.int .i64 M2) ∧ w'.cell? ⟨N3, 2, none⟩ = some (.int .i64 u) ∧ w'.cell? ⟨N3, 3, none⟩ = some (.int .i64 g) ∧ w'.cell? ⟨N3, 4, none⟩ = some (.int .i64 0) ∧ w'.cell? ⟨N3, 5, none⟩ = some (.int .i64 0) ∧ w'.cell? ⟨N3, 6, none⟩ = some (.slice none 0 0) ∧ w'.cell? ⟨N3, 7, none⟩ = some (.string ⟨#[]⟩) ∧ w'.cell? ⟨N3, 8, none⟩ = some (.slice none 0 0) ∧ w'.cell? ⟨N3, 9, none⟩ = some (.int .i64 0) ∧ w'.cell? ⟨N1, 0, none⟩ = some (.int .i64 us) ∧ w'.cell? ⟨N1, 1, none⟩ = some (.int .i64 gr) ∧ w'.cell? ⟨N1, 2, none⟩ = some (.int .i64 mk) ∧ w'.cell? ⟨N1, 3, none⟩ = some (.int .i64 dr)) (with_reducible assumption)
        (first
          | ((with_reducible refine (unhide HM1 a _).mono ?_); rintro r w1 ⟨rfl, hb⟩; have HPe := hide ((unhide HPd).step hb); have hS2 := pq_cells (unhide HPe); clear hb)
          | ((with_reducible refine (unhide HM2 a _).mono ?_); rintro r w2 ⟨rfl, hb⟩; have HPf := hide ((unhide HPe).step hb); have hS3 := pq_cells (unhide HPf); clear hb)
          | fail)
      obtain ⟨q, hq⟩ : ∃ q, q = mp a := ⟨_, rfl⟩
      rw [← hq]
      clear hq hS1 hS2 hS3 HPd HPe
      cases q
      all_goals
        go_wp2_with fail
        go_roundw
        case rel => exact ⟨a + 1, by omega, by omega, by go_num, HPf⟩
        case measure => simp [intOf]; omega
    · have h8 : a = 8 := by omega
      subst h8
      go_wp2_with fail
      refine (unhide HL _).mono ?_
      rintro r w' ⟨rfl, hb⟩
      have HB := hide ((unhide HP).step hb).below
      clear hb
      go_wp2_with fail
      go_ret
      exact ⟨rfl, unhide HB⟩
set_option maxRecDepth 100000 in
set_option maxHeartbeats 1000000 in
theorem class_walk (k m o u g : Nat) (hk : k < 256) (hm : m < 65536) (hu : u < 65536) (hg : g < 65536) (e : Ev) (w : World) :
    Calls Try.prog 7 #[.agg #[.int .u8 k, .int .u16 m, .int .u16 o, .int .u16 u, .int .u16 g, .int .i64 e.user, .int .i64 e.group, .int .i64 e.mask, .int .i64 e.dir]] w fun r w' => r = .returned (.bool true) ∧ Below w.heap.size w w' := by
  obtain ⟨us, gr, mk, dr⟩ := e
  by_cases h0 : us = 0
  · subst h0
    have HL := hide lives_any
    simp only at *
    go_enter Try.func7, Try.ntmps7
    go_wp2_with fail
    refine (unhide HL _).mono ?_
    rintro r w' ⟨rfl, hb⟩
    have HB := hide ((b2 w _ _).trans (hb.mono (by simp; omega)))
    clear hb
    go_wp2_with fail
    go_ret
    exact ⟨rfl, unhide HB⟩
  by_cases h1 : us = (u : Int)
  · subst h1
    exact class2 k m o u g hk hm hu hg gr mk dr w h0
  by_cases h2 : gr = (g : Int)
  · subst h2
    exact class1 k m o u g hk hm hu hg us mk dr w h0 h1
  · exact class0 k m o u g hk hm hu hg us gr mk dr w h0 h1 h2
end Go.Proofs.Ytngljliollbcnaa.Pm
