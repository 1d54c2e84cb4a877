import Derived.Test.YtcpellddjlmegaaGreatDoorTrLives
import Derived.Test.YtcpellddjlmegaaGreatDoorBookBED
import Derived.Test.YtcpellddjlmegaaGreatDoorTnSame
/- A Book that is given new trees: Node, Nodes, Tree. -/
namespace Go.Proofs.YtcpellddjlmegaaGreatDoor.Tr
open Go.RowKit Go.Proofs.YtcpellddjlmegaaGreatDoor.Cu
open Go.Proofs.YtcpellddjlmegaaGreatDoor.Bk hiding hide unhide

theorem bt_node : ¬ Bt 51 := by unfold Bt; decide
theorem bt_tree : ¬ Bt 38 := by unfold Bt; decide
theorem one_new (w : World) (o : Obj) : Below w.heap.size w (w.alloc o) ∧ (w.alloc o).heap[w.heap.size]? = some o ∧ w.heap.size < (w.alloc o).heap.size :=
  ⟨(Below.refl _ _).alloc (Nat.le_refl _) _, heap_alloc_new w o, by simp⟩
set_option maxRecDepth 100000 in
set_option maxHeartbeats 400000 in
theorem node_keep (m : Nd) (B P n : Nat) (LN : List Kept) (w : World) (h : BN B P n LN w) (hn : n < 98) :
    Calls Tryz.prog 63 #[.pointer (some ⟨P, 0, none⟩), .agg (na m (.slice none 0 0) (.slice none 0 0))] w fun e w' => e = .returned (.tuple #[]) ∧ BN B P (n + 2) LN w' ∧ Kp B w w' := by
  have HB : Hid (∀ W, BN B P n LN W → Calls Tryz.prog 103 #[.pointer (some ⟨P, 0, none⟩), .slice none 0 0] W fun e w' => e = .returned (.tuple #[]) ∧ BN B P (n + 1) LN w' ∧ Kp B W w') := fun W hW => bytesN B P n LN W hW (by omega)
  have HE : Hid (∀ W, BN B P (n + 1) LN W → Calls Tryz.prog 104 #[.pointer (some ⟨P, 0, none⟩), .slice none 0 0] W fun e w' => e = .returned (.tuple #[]) ∧ BN B P (n + 2) LN w' ∧ Kp B W w') := fun W hW => entriesN B P (n + 1) LN W hW (by omega)
  obtain ⟨kd, md, us, gr, lk, ti, dt, tg, ls, pa⟩ := m
  unfold na
  simp only
  have H := hide h
  clear h
  go_enter Tryz.func63, Tryz.ntmps63
  go_wp2_with fail
  obtain ⟨W, hWe⟩ : ∃ W, W = w.alloc (.cells #[.int .u8 kd.toNat, .int .i64 md, .int .i64 us, .int .i64 gr, .int .i64 lk, .int .i64 ti, .slice none 0 0, .string tg, .slice none 0 0, .int .i64 pa] 51) := ⟨_, rfl⟩
  obtain ⟨b1, n1, z1⟩ : Below w.heap.size w W ∧ W.heap[w.heap.size]? = some (.cells #[.int .u8 kd.toNat, .int .i64 md, .int .i64 us, .int .i64 gr, .int .i64 lk, .int .i64 ti, .slice none 0 0, .string tg, .slice none 0 0, .int .i64 pa] 51) ∧ w.heap.size < W.heap.size := by
    rw [hWe]; exact one_new w _
  rw [← hWe]
  clear hWe
  refine (unhide HB W ((unhide H).below b1)).mono ?_
  rintro e w3 ⟨rfl, h3, k3⟩
  have m1 := k3.block n1 bt_node
  have c8 : w3.cell? ⟨w.heap.size, 8, none⟩ = some (.slice none 0 0) := by rw [cell_of_row _ _ _ _ _ _ m1]; rfl
  have K3 := hide ((Kp.of_below b1).trans k3)
  have HE3 := hide (unhide HE w3 h3)
  clear m1 n1 b1 k3 h3 HB HE H
  go_wp2_with fail
  refine (unhide HE3).mono ?_
  rintro e w4 ⟨rfl, h4, k4⟩
  have H4 := hide h4
  have K4 := hide ((unhide K3).trans k4)
  clear h4 k4 K3 HE3
  go_wp2
  go_end0
  exact ⟨rfl, unhide H4, unhide K4⟩

theorem new_cells {w : World} {G : Nat} (h : w.heap[G]? = some (.cells newA 51)) : ∀ k, k < 2 → N10 w G (k * 10) (nd newT k) (.slice none 0 0) (.slice none 0 0) := by
  have hc : ∀ j, w.cell? ⟨G, j, none⟩ = newA[j]? := fun j => cell_of_row _ _ _ _ _ _ h
  intro k hk
  match k, hk with
  | 0, _ => exact ⟨by rw [hc]; rfl, by rw [hc]; rfl, by rw [hc]; rfl, by rw [hc]; rfl, by rw [hc]; rfl, by rw [hc]; rfl, by rw [hc]; rfl, by rw [hc]; rfl, by rw [hc]; rfl, by rw [hc]; rfl⟩
  | 1, _ => exact ⟨by rw [hc]; rfl, by rw [hc]; rfl, by rw [hc]; rfl, by rw [hc]; rfl, by rw [hc]; rfl, by rw [hc]; rfl, by rw [hc]; rfl, by rw [hc]; rfl, by rw [hc]; rfl, by rw [hc]; rfl⟩

set_option maxRecDepth 100000 in
set_option maxHeartbeats 400000 in
theorem nodes_keep (G B P n : Nat) (LN : List Kept) (w : World) (h : BN B P n LN w) (hG : w.heap[G]? = some (.cells newA 51)) (hn : n < 95) :
    Calls Tryz.prog 17 #[.pointer (some ⟨P, 0, none⟩), .slice (some ⟨G, 0, none⟩) 2 2] w fun e w' => e = .returned (.tuple #[]) ∧ BN B P (n + 5) (LN ++ [⟨.slice (some ⟨G, 0, none⟩) 2 2, n + 5, 2, newA.toList⟩]) w' ∧ Kp B w w' := by
  have HN : Hid (∀ W k m, BN B P (n + 2 * k) LN W → k < 2 → Calls Tryz.prog 63 #[.pointer (some ⟨P, 0, none⟩), .agg (na m (.slice none 0 0) (.slice none 0 0))] W fun e w' => e = .returned (.tuple #[]) ∧ BN B P (n + 2 * (k + 1)) LN w' ∧ Kp B W w') := fun W k m hW hk => node_keep m B P (n + 2 * k) LN W hW (by omega)
  have HK : Hid (∀ W, BN B P (n + 4) LN W → Calls Tryz.prog 64 #[.pointer (some ⟨P, 0, none⟩), .slice (some ⟨G, 0, none⟩) 2 2] W fun e w' => e = .returned (.tuple #[]) ∧ BN B P (n + 5) (LN ++ [⟨.slice (some ⟨G, 0, none⟩) 2 2, n + 5, 2, newA.toList⟩]) w' ∧ Kp B W w') := fun W hW => keepN B P (n + 4) LN W hW (by omega) _ _ _ _
  have H := hide h
  have HG := hide hG
  clear h hG
  go_enter Tryz.func17, Tryz.ntmps17
  go_wp2
  go_loopw [4] (fun i wr => ∃ k : Nat, k ≤ 2 ∧ i = .int .i64 k ∧ Hid (BN B P (n + 2 * k) LN wr) ∧ Hid (Kp B w wr)) (fun i _ => 2 - (intOf i).toNat)
  case atStart => exact ⟨0, Nat.zero_le _, rfl, H, (⟨fun _ => False, Touch.refl _ _, fun _ h => h.elim, fun _ h => h.elim⟩ : Kp B w w)⟩
  case round =>
    obtain ⟨k, hk, rfl, hbn, hkp⟩ := hrel
    by_cases hlt : k < 2
    · have hlt' : (k : Int) < 2 := by omega
      have h10 := new_cells ((unhide hkp).block (unhide HG) bt_node) k hlt
      have HT := hide (unhide HN wr k (nd newT k) (unhide hbn) hlt)
      obtain ⟨m, hm⟩ : ∃ m, m = nd newT k := ⟨_, rfl⟩
      rw [← hm] at h10 HT
      obtain ⟨kd, md, us, gr, lk, ti, dt, tg, ls, pa⟩ := m
      obtain ⟨c0, c1, c2, c3, c4, c5, c6, c7, c8, c9⟩ := h10
      clear hm
      unfold na at HT
      simp only at HT c0 c1 c2 c3 c4 c5 c6 c7 c8 c9
      go_wp2_with fail
      refine (unhide HT).mono ?_
      rintro e w2 ⟨rfl, h2, k2⟩
      have H2 := hide h2
      have K2 := hide ((unhide hkp).trans k2)
      clear h2 k2 HT c0 c1 c2 c3 c4 c5 c6 c7 c8 c9 hbn hkp
      go_wp2
      go_roundw
      case rel => exact ⟨k + 1, by omega, by go_num, H2, K2⟩
      case measure => simp [intOf]; omega
    · obtain rfl : k = 2 := by omega
      have HK1 := hide (unhide HK wr (unhide hbn))
      have HKP := hkp
      clear hbn HK HN hkp
      go_wp2_with fail
      refine (unhide HK1).mono ?_
      rintro e w2 ⟨rfl, h2, k2⟩
      have H2 := hide h2
      have K2 := hide ((unhide HKP).trans k2)
      clear h2 k2 HK1 HKP
      go_wp2
      go_end0
      exact ⟨rfl, unhide H2, unhide K2⟩
set_option maxRecDepth 100000 in
set_option maxHeartbeats 400000 in
theorem tree_keep (G B P n : Nat) (LN : List Kept) (w : World) (h : BN B P n LN w) (hG : w.heap[G]? = some (.cells newA 51)) (hn : n < 95) :
    Calls Tryz.prog 8 #[.pointer (some ⟨P, 0, none⟩), .agg #[.slice (some ⟨G, 0, none⟩) 2 2, .int .i64 0]] w fun e w' => e = .returned (.tuple #[]) ∧ BN B P (n + 5) (LN ++ [⟨.slice (some ⟨G, 0, none⟩) 2 2, n + 5, 2, newA.toList⟩]) w' ∧ Kp B w w' := by
  have HN : Hid (∀ W, Below w.heap.size w W → Calls Tryz.prog 17 #[.pointer (some ⟨P, 0, none⟩), .slice (some ⟨G, 0, none⟩) 2 2] W fun e w' => e = .returned (.tuple #[]) ∧ BN B P (n + 5) (LN ++ [⟨.slice (some ⟨G, 0, none⟩) 2 2, n + 5, 2, newA.toList⟩]) w' ∧ Kp B W w') := fun W hW => nodes_keep G B P n LN W (h.below hW) ((Kp.of_below (B := B) hW).block hG bt_node) hn
  clear h hG
  go_enter Tryz.func8, Tryz.ntmps8
  go_wp2_with fail
  obtain ⟨W, hWe⟩ : ∃ W, W = w.alloc (.cells #[.slice (some ⟨G, 0, none⟩) 2 2, .int .i64 0] 38) := ⟨_, rfl⟩
  have b1 : Below w.heap.size w W := by rw [hWe]; exact (one_new w _).1
  rw [← hWe]
  clear hWe
  refine (unhide HN W b1).mono ?_
  rintro e w3 ⟨rfl, h3, k3⟩
  have H3 := hide h3
  have K3 := hide ((Kp.of_below b1).trans k3)
  clear b1 k3 h3 HN
  go_wp2
  go_end0
  exact ⟨rfl, unhide H3, unhide K3⟩
end Go.Proofs.YtcpellddjlmegaaGreatDoor.Tr

/- TreeNew, walked. -/
namespace Go.Proofs.YtcpellddjlmegaaGreatDoor.Tr
open Go.RowKit Go.Proofs.YtcpellddjlmegaaGreatDoor.Cu
open Go.Proofs.YtcpellddjlmegaaGreatDoor.Bk hiding hide unhide

theorem new_sizes {W : World} {g : Nat} (h : W.heap[g]? = some (.cells newA 51)) : Calls Tryz.prog 5 #[.agg #[.slice (some ⟨g, 0, none⟩) 2 2, .int .i64 0]] W fun e w' => e = .returned (.tuple #[.int .i64 1, .int .i64 0]) ∧ Below W.heap.size W w' := by
  refine (sizes_any (some ⟨g, 0, none⟩) 2 2 newT 0 W (ng_new h) sm_new).mono ?_
  rintro e w' ⟨rfl, hb⟩
  refine ⟨?_, hb⟩
  rw [sizesV, if_pos chk_new]
  rfl
theorem new_check {W : World} {g : Nat} (h : W.heap[g]? = some (.cells newA 51)) : Calls Tryz.prog 6 #[.agg #[.slice (some ⟨g, 0, none⟩) 2 2, .int .i64 0]] W fun e w' => e = .returned (.bool true) ∧ Below W.heap.size W w' := by
  have hc := checkAny 0 (ng_new h) sm_new
  rw [chk_new] at hc
  exact hc
theorem new_same {W : World} {g g2 : Nat} (h : W.heap[g]? = some (.cells newA 51)) (h2 : W.heap[g2]? = some (.cells newA 51)) : Calls Tryz.prog 7 #[.agg #[.slice (some ⟨g, 0, none⟩) 2 2, .int .i64 0], .agg #[.slice (some ⟨g2, 0, none⟩) 2 2, .int .i64 0]] W fun e w' => e = .returned (.bool true) ∧ Below W.heap.size W w' :=
  sameTree_any g g2 2 0 (nd newT) W (new_cells h) (new_cells h2) (Array.getElem?_eq_some_iff.1 h).1 (Array.getElem?_eq_some_iff.1 h2).1 (by omega)

theorem nat_of_n8 {n : Int} (h : (Lit.int .u8 n).wf = true) : ∃ k : Nat, n = (k : Int) ∧ k < 256 := by
  have h2 : 0 ≤ n ∧ n < 256 := by
    simp [Lit.wf] at h
    have h1 : IntKind.u8.min = 0 := by decide
    have h2 : IntKind.u8.max = 255 := by decide
    rw [h1, h2] at h
    omega
  exact ⟨n.toNat, by omega, by omega⟩
/-- what stands while a round asks: the Book, what it was given, the new tree in a block above all these, and its box -/
structure Jn (w0 : World) (B P n : Nat) (LN : List Kept) (g T : Nat) (W : World) : Prop where
  bn : BN B P n LN W
  gv : Given B 51 10 LN W
  ng : W.heap[g]? = some (.cells newA 51)
  lt : B ≤ g ∧ ∀ x ∈ LN, ∀ b, x.v.ownBlock = some b → b < g
  bx : W.heap[T]? = some (.cells #[.slice (some ⟨g, 0, none⟩) 2 2, .int .i64 0] 38)
  kp : Kp B w0 W
theorem Jn.below {w0 : World} {B P n : Nat} {LN : List Kept} {g T : Nat} {W W' : World} (h : Jn w0 B P n LN g T W) (hb : Below W.heap.size W W') : Jn w0 B P n LN g T W' :=
  ⟨h.bn.below hb, h.gv.kp (Kp.of_below hb) bt_node, (Kp.of_below (B := B) hb).block h.ng bt_node, h.lt, (Kp.of_below (B := B) hb).block h.bx bt_tree, h.kp.trans (Kp.of_below hb)⟩
theorem Jn.start {w0 : World} {B P n : Nat} {LN : List Kept} {w w1 : World} (h : BN B P n LN w) (g : Given B 51 10 LN w) (hk : Kp B w0 w) (hg : w1.heap[w.heap.size + 1]? = some (.cells newA 51)) (hb : Below w.heap.size w w1) :
    Jn w0 B P n LN (w.heap.size + 1) w1.heap.size (w1.alloc (.cells #[.slice (some ⟨w.heap.size + 1, 0, none⟩) 2 2, .int .i64 0] 38)) := by
  obtain ⟨b1, n1, z1⟩ := one_new w1 (.cells #[.slice (some ⟨w.heap.size + 1, 0, none⟩) 2 2, .int .i64 0] 38)
  have hi := h.2.1
  refine ⟨(h.below hb).below b1, (g.kp (Kp.of_below hb) bt_node).kp (Kp.of_below b1) bt_node, (Kp.of_below (B := B) b1).block hg bt_node, ⟨by omega, fun x hx b e => ?_⟩, n1, (hk.trans (Kp.of_below hb)).trans (Kp.of_below b1)⟩
  have := (own_block (g.own x hx).1 b e).1
  omega
theorem Jn.c {w0 : World} {B P n : Nat} {LN : List Kept} {g T : Nat} {W : World} (h : Jn w0 B P n LN g T W) : W.cell? ⟨T, 0, none⟩ = some (.slice (some ⟨g, 0, none⟩) 2 2) ∧ W.cell? ⟨T, 1, none⟩ = some (.int .i64 0) :=
  ⟨by rw [cell_of_row _ _ _ _ _ _ h.bx]; rfl, by rw [cell_of_row _ _ _ _ _ _ h.bx]; rfl⟩
/-- what the Book was given after the round -/
theorem Jn.next {w0 : World} {B P n : Nat} {LN : List Kept} {g T : Nat} {W W' : World} (h : Jn w0 B P n LN g T W) (k : Kp B W W') (m : Nat) (hm : m < 100) : Given B 51 10 (LN ++ [⟨.slice (some ⟨g, 0, none⟩) 2 2, m, 2, newA.toList⟩]) W' := by
  have ho : W.ownsRow B 51 10 (.slice (some ⟨g, 0, none⟩) 2 2) 2 newA.toList := ⟨rfl, .inr ⟨g, 2, newA, rfl, h.lt.1, h.ng, Nat.le_refl _, by unfold maxLen; omega, rfl, rfl⟩⟩
  refine (h.gv.snoc h.lt.2 _ ho hm (by show 2 ≤ 4194304; omega) (fun b e => ?_)).kp k bt_node
  simp [Value.ownBlock] at e
  omega

set_option maxRecDepth 100000 in
set_option maxHeartbeats 400000 in
theorem treeNew_any (m : Nat) (hm : m < 256) (w : World) : Calls Tryz.prog 3 #[.int .u8 m] w fun e w' => e = .returned (.bool true) ∧ Below w.heap.size w w' := by
  obtain ⟨M, hM⟩ : ∃ M, M = m % 20 := ⟨_, rfl⟩
  have hM20 : M < 20 := by omega
  go_enter Tryz.func3, Tryz.ntmps3
  go_wp2
  go_loopw [4] (fun i wr => ∃ (k : Nat) (LN : List Kept), k ≤ M ∧ i = .int .i64 k ∧ Hid (BN w.heap.size w.heap.size (5 * k) LN wr) ∧ Hid (Given w.heap.size 51 10 LN wr) ∧ Hid (Kp w.heap.size w wr)) (fun i _ => M - (intOf i).toNat)
  case atStart => exact ⟨0, [], Nat.zero_le _, rfl, BN.start (Nat.le_refl _) (by simp) (own_new w _ rfl), ⟨fun x hx => absurd hx (by simp), List.Pairwise.nil⟩, Kp.of_below (one_new w _).1⟩
  case round =>
    obtain ⟨k, LN, hk, rfl, hbn, hgv, hkp⟩ := hrel
    by_cases hlt : k < M
    · have hlt' : (k : Int) < (m : Int) % 20 := by omega
      go_wp2_with fail
      refine (new_any wr).mono ?_
      rintro e w1 ⟨rfl, hg1, b1⟩
      have J1 := hide (Jn.start (unhide hbn) (unhide hgv) (unhide hkp) hg1 b1)
      obtain ⟨g, hg⟩ : ∃ g, g = wr.heap.size + 1 := ⟨_, rfl⟩
      rw [← hg] at J1
      rw [← hg]
      clear hg hg1 b1 hbn hgv hkp
      go_wp2_with fail
      obtain ⟨T, hT⟩ : ∃ T, T = w1.heap.size := ⟨_, rfl⟩
      rw [← hT] at J1
      rw [← hT]
      clear hT
      refine (new_sizes (unhide J1).ng).mono ?_
      rintro e w2 ⟨rfl, b2⟩
      have J2 := hide ((unhide J1).below b2)
      clear J1 b2
      obtain ⟨c0, c1⟩ := (unhide J2).c
      go_wp2_with fail
      have hJd := (unhide J2).below (W' := w2.drew) ⟨rfl, rfl, rfl, Nat.le_refl _, fun _ _ => rfl⟩
      have hS1 := hJd.c
      have JD := hide hJd
      clear hJd c0 c1 J2
      go_region_held3 (fun w' => w'.cell? ⟨T, 0, none⟩ = some (.slice (some ⟨g, 0, none⟩) 2 2) ∧ w'.cell? ⟨T, 1, none⟩ = some (.int .i64 0)) (with_reducible assumption)
        (first
          | ((with_reducible refine (new_check (unhide JD).ng).mono ?_); rintro r w3 ⟨rfl, hb⟩; have JE := hide ((unhide JD).below hb); have hS2 := (unhide JE).c; clear hb)
          | ((with_reducible refine (new_any _).mono ?_); rintro r w4 ⟨rfl, hg2, hb⟩; have JF := hide ((unhide JE).below hb); have hS3 := (unhide JF).c; have HG2 := hide hg2; clear hb hg2)
          | ((with_reducible refine (new_same (unhide JF).ng (unhide HG2)).mono ?_); rintro r w5 ⟨rfl, hb⟩; have JG := hide ((unhide JF).below hb); have hS4 := (unhide JG).c; clear hb)
          | fail)
      clear hS1 hS2 hS3 JD JE JF HG2
      have HT := hide (tree_keep g w.heap.size w.heap.size (5 * k) LN w5 (unhide JG).bn (unhide JG).ng (by omega))
      obtain ⟨c0, c1⟩ := hS4
      go_wp2_with fail
      refine (unhide HT).mono ?_
      rintro e w6 ⟨rfl, h6, k6⟩
      have H6 := hide h6
      have G6 := hide ((unhide JG).next k6 (5 * k + 5) (by omega))
      have K6 := hide ((unhide JG).kp.trans k6)
      clear h6 k6 c0 c1 JG HT
      go_wp2
      go_roundw
      case rel => exact ⟨k + 1, _, by omega, by go_num, H6, G6, K6⟩
      case measure => simp [intOf]; omega
    · obtain rfl : k = M := by omega
      have hge : ¬ (k : Int) < (m : Int) % 20 := by omega
      have HA := hide (apartN w.heap.size w.heap.size (5 * k) LN wr (unhide hbn) (unhide hgv) (by omega))
      have HK := hide ((unhide hkp).below (Nat.le_refl _))
      clear hbn hgv hkp
      go_wp2_with fail
      refine (unhide HA).mono ?_
      rintro e w2 ⟨rfl, b2⟩
      have H2 := hide ((unhide HK).trans b2)
      clear HA HK b2
      go_wp2_with fail
      refine (lives_any w2).mono ?_
      rintro e w3 ⟨rfl, b3⟩
      have H3 := hide ((unhide H2).trans (b3.mono (unhide H2).size))
      clear H2 b3
      go_wp2
      go_ret
      exact ⟨rfl, unhide H3⟩
end Go.Proofs.YtcpellddjlmegaaGreatDoor.Tr
