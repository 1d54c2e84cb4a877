/- SortsChecks returns true. -/
import Derived.Test.YtjfjhpakkflceaaDoorSoChk
import Derived.Test.YtjfjhpakkflceaaDoorSoCheck
import Derived.Test.YtjfjhpakkflceaaDoorSoGreat
namespace Go.Proofs.YtjfjhpakkflceaaDoor.So
open Go.RowKit Go.Shelf Ky
open Pa (Tx tot TwinT)

attribute [local go_sem] Oper.semAt_some

theorem tot_mem2 : ∀ {A : Ls} {s : ByteArray}, s ∈ A → s.size ≤ tot A
  | x :: l, s, h => by
    rcases List.mem_cons.1 h with rfl | h
    · simp [tot]
    · have := tot_mem2 h; simp [tot]; omega

set_option maxRecDepth 100000 in
set_option maxHeartbeats 800000 in
theorem sortsChecks_any (o : Ky.Ord) (u : Bool) (A : Ls) (a : Option Addr) (la ca : Nat) (w : World) (hT : Tx w a la ca A) (hl : la ≤ 4611686018427387904) (hs : ∀ s ∈ A, s.size ≤ 4611686018427387904) :
    Calls Tryd.prog 3 #[ov o, .slice a la ca, .bool u] w fun e w' => e = .returned (.bool true) ∧ Below w.heap.size w w' := by
  have H0 : Hid (Hd w o (w.alloc (.cells #[.bool o.num, .bool o.fold, .bool o.bls, .bool o.rev, .int .i64 o.fr, .int .i64 o.«to», .int .u8 (o.sep.toNat : Int)] 23))) := Hd.new w o
  have HT := hide hT
  have GR : Hid (∀ W, Hd w o W → Calls Tryd.prog 6 #[.slice a la ca] W fun e w' => ∃ r : Bool, e = .returned (.bool r) ∧ (r = false → (la ≤ 3000 ∨ 65536 < la) ∧ la + tot A ≤ 300000) ∧ Below W.heap.size W w') := fun W h => great_lines A a la ca W (hT.below h.2) hl hs
  clear hT hs
  unfold ov
  go_enter Tryd.func3, Tryd.ntmps3
  go_wp2_with fail
  refine (unhide GR _ (unhide H0)).mono ?_
  rintro e w1 ⟨r, rfl, hr, b1⟩
  have H1 := hide ((unhide H0).step b1)
  clear b1 H0 GR
  cases r
  · obtain ⟨hr1, hr2⟩ := hr rfl
    clear hr
    have hla : la ≤ 300000 := by omega
    have hAs : ∀ s ∈ A, s.size ≤ 1073741000 := fun s h => by have := tot_mem2 h; omega
    have C1 := hide (Pa.twinTexts_any a la ca A w1 ((unhide HT).below (unhide H1).2) (by omega))
    have C2 : Hid (∀ W y cy, Tx W y la cy A → Calls Tryd.prog 8 #[.agg #[.bool o.num, .bool o.fold, .bool o.bls, .bool o.rev, .int .i64 o.fr, .int .i64 o.«to», .int .u8 (o.sep.toNat : Int)], .slice y la cy, .bool u] W fun e w' => e = .returned (.int .i64 (checkL o u A)) ∧ Below W.heap.size W w') := fun W y cy h => check_anyS o u A y la cy W h hl hAs
    have C3 : Hid (∀ W, Tx W a la ca A → Calls Tryd.prog 9 #[.agg #[.bool o.num, .bool o.fold, .bool o.bls, .bool o.rev, .int .i64 o.fr, .int .i64 o.«to», .int .u8 (o.sep.toNat : Int)], .slice a la ca, .bool u] W fun e w' => e = .returned (.int .i64 (checkL o u A)) ∧ Below W.heap.size W w') := fun W h => rcheckS_any o u A a la ca W h hl hAs
    generalize checkL o u A = r at *
    go_wp2_with fail
    refine (unhide C1).mono ?_
    rintro e w2 ⟨rfl, t2, b2⟩
    have H2 := hide ((unhide H1).step b2)
    have T2 := hide t2
    clear b2 t2 C1 H1 hAs
    obtain ⟨d0, d1, d2, d3, d4, d5, d6⟩ := (unhide H2).1.cells
    go_wp2_with fail
    obtain ⟨hO2, hsp⟩ := unhide T2
    have hTw : Hid (Tx w2 (some ⟨w1.heap.size, 0, none⟩) la (la + 1) A) := by
      have q := hO2
      rw [show la = A.length from (unhide HT).len.symm] at q
      obtain ⟨x, c, e, t⟩ := Pa.tx_of_owns q
      obtain ⟨rfl, -, rfl⟩ := Value.slice.inj e
      rw [(unhide HT).len] at t
      exact t
    clear hO2 hsp
    have mkS : Hid (∀ W, Hd w o W ∧ Below w2.heap.size w2 W → W.cell? ⟨w.heap.size, 0, none⟩ = some (.bool o.num) ∧ W.cell? ⟨w.heap.size, 1, none⟩ = some (.bool o.fold) ∧ W.cell? ⟨w.heap.size, 2, none⟩ = some (.bool o.bls) ∧ W.cell? ⟨w.heap.size, 3, none⟩ = some (.bool o.rev) ∧ W.cell? ⟨w.heap.size, 4, none⟩ = some (.int .i64 o.fr) ∧ W.cell? ⟨w.heap.size, 5, none⟩ = some (.int .i64 o.«to») ∧ W.cell? ⟨w.heap.size, 6, none⟩ = some (.int .u8 (o.sep.toNat : Int)) ∧ Hid (Hd w o W ∧ Below w2.heap.size w2 W)) := fun W h => by
      obtain ⟨q0, q1, q2, q3, q4, q5, q6⟩ := h.1.1.cells
      exact ⟨q0, q1, q2, q3, q4, q5, q6, h⟩
    have stp : Hid (∀ W W', W.cell? ⟨w.heap.size, 0, none⟩ = some (.bool o.num) ∧ W.cell? ⟨w.heap.size, 1, none⟩ = some (.bool o.fold) ∧ W.cell? ⟨w.heap.size, 2, none⟩ = some (.bool o.bls) ∧ W.cell? ⟨w.heap.size, 3, none⟩ = some (.bool o.rev) ∧ W.cell? ⟨w.heap.size, 4, none⟩ = some (.int .i64 o.fr) ∧ W.cell? ⟨w.heap.size, 5, none⟩ = some (.int .i64 o.«to») ∧ W.cell? ⟨w.heap.size, 6, none⟩ = some (.int .u8 (o.sep.toNat : Int)) ∧ Hid (Hd w o W ∧ Below w2.heap.size w2 W) → Below W.heap.size W W' → W'.cell? ⟨w.heap.size, 0, none⟩ = some (.bool o.num) ∧ W'.cell? ⟨w.heap.size, 1, none⟩ = some (.bool o.fold) ∧ W'.cell? ⟨w.heap.size, 2, none⟩ = some (.bool o.bls) ∧ W'.cell? ⟨w.heap.size, 3, none⟩ = some (.bool o.rev) ∧ W'.cell? ⟨w.heap.size, 4, none⟩ = some (.int .i64 o.fr) ∧ W'.cell? ⟨w.heap.size, 5, none⟩ = some (.int .i64 o.«to») ∧ W'.cell? ⟨w.heap.size, 6, none⟩ = some (.int .u8 (o.sep.toNat : Int)) ∧ Hid (Hd w o W' ∧ Below w2.heap.size w2 W')) := fun W W' h b => unhide mkS W' ⟨(unhide h.2.2.2.2.2.2.2).1.step b, (unhide h.2.2.2.2.2.2.2).2.trans (b.mono (unhide h.2.2.2.2.2.2.2).2.size)⟩
    have K2 : Hid (∀ W, W.cell? ⟨w.heap.size, 0, none⟩ = some (.bool o.num) ∧ W.cell? ⟨w.heap.size, 1, none⟩ = some (.bool o.fold) ∧ W.cell? ⟨w.heap.size, 2, none⟩ = some (.bool o.bls) ∧ W.cell? ⟨w.heap.size, 3, none⟩ = some (.bool o.rev) ∧ W.cell? ⟨w.heap.size, 4, none⟩ = some (.int .i64 o.fr) ∧ W.cell? ⟨w.heap.size, 5, none⟩ = some (.int .i64 o.«to») ∧ W.cell? ⟨w.heap.size, 6, none⟩ = some (.int .u8 (o.sep.toNat : Int)) ∧ Hid (Hd w o W ∧ Below w2.heap.size w2 W) → Calls Tryd.prog 8 #[.agg #[.bool o.num, .bool o.fold, .bool o.bls, .bool o.rev, .int .i64 o.fr, .int .i64 o.«to», .int .u8 (o.sep.toNat : Int)], .slice (some ⟨w1.heap.size, 0, none⟩) la (la + 1), .bool u] W fun e w' => e = .returned (.int .i64 r) ∧ w'.cell? ⟨w.heap.size, 0, none⟩ = some (.bool o.num) ∧ w'.cell? ⟨w.heap.size, 1, none⟩ = some (.bool o.fold) ∧ w'.cell? ⟨w.heap.size, 2, none⟩ = some (.bool o.bls) ∧ w'.cell? ⟨w.heap.size, 3, none⟩ = some (.bool o.rev) ∧ w'.cell? ⟨w.heap.size, 4, none⟩ = some (.int .i64 o.fr) ∧ w'.cell? ⟨w.heap.size, 5, none⟩ = some (.int .i64 o.«to») ∧ w'.cell? ⟨w.heap.size, 6, none⟩ = some (.int .u8 (o.sep.toNat : Int)) ∧ Hid (Hd w o w' ∧ Below w2.heap.size w2 w')) := fun W h => (unhide C2 W _ _ ((unhide hTw).below (unhide h.2.2.2.2.2.2.2).2)).mono fun e w' q => ⟨q.1, unhide stp W w' h q.2⟩
    have K3 : Hid (∀ W, W.cell? ⟨w.heap.size, 0, none⟩ = some (.bool o.num) ∧ W.cell? ⟨w.heap.size, 1, none⟩ = some (.bool o.fold) ∧ W.cell? ⟨w.heap.size, 2, none⟩ = some (.bool o.bls) ∧ W.cell? ⟨w.heap.size, 3, none⟩ = some (.bool o.rev) ∧ W.cell? ⟨w.heap.size, 4, none⟩ = some (.int .i64 o.fr) ∧ W.cell? ⟨w.heap.size, 5, none⟩ = some (.int .i64 o.«to») ∧ W.cell? ⟨w.heap.size, 6, none⟩ = some (.int .u8 (o.sep.toNat : Int)) ∧ Hid (Hd w o W ∧ Below w2.heap.size w2 W) → Calls Tryd.prog 9 #[.agg #[.bool o.num, .bool o.fold, .bool o.bls, .bool o.rev, .int .i64 o.fr, .int .i64 o.«to», .int .u8 (o.sep.toNat : Int)], .slice a la ca, .bool u] W fun e w' => e = .returned (.int .i64 r) ∧ w'.cell? ⟨w.heap.size, 0, none⟩ = some (.bool o.num) ∧ w'.cell? ⟨w.heap.size, 1, none⟩ = some (.bool o.fold) ∧ w'.cell? ⟨w.heap.size, 2, none⟩ = some (.bool o.bls) ∧ w'.cell? ⟨w.heap.size, 3, none⟩ = some (.bool o.rev) ∧ w'.cell? ⟨w.heap.size, 4, none⟩ = some (.int .i64 o.fr) ∧ w'.cell? ⟨w.heap.size, 5, none⟩ = some (.int .i64 o.«to») ∧ w'.cell? ⟨w.heap.size, 6, none⟩ = some (.int .u8 (o.sep.toNat : Int)) ∧ Hid (Hd w o w' ∧ Below w2.heap.size w2 w')) := fun W h => (unhide C3 W ((unhide HT).below (unhide h.2.2.2.2.2.2.2).1.2)).mono fun e w' q => ⟨q.1, unhide stp W w' h q.2⟩
    have K4 : Hid (∀ W, W.cell? ⟨w.heap.size, 0, none⟩ = some (.bool o.num) ∧ W.cell? ⟨w.heap.size, 1, none⟩ = some (.bool o.fold) ∧ W.cell? ⟨w.heap.size, 2, none⟩ = some (.bool o.bls) ∧ W.cell? ⟨w.heap.size, 3, none⟩ = some (.bool o.rev) ∧ W.cell? ⟨w.heap.size, 4, none⟩ = some (.int .i64 o.fr) ∧ W.cell? ⟨w.heap.size, 5, none⟩ = some (.int .i64 o.«to») ∧ W.cell? ⟨w.heap.size, 6, none⟩ = some (.int .u8 (o.sep.toNat : Int)) ∧ Hid (Hd w o W ∧ Below w2.heap.size w2 W) → Calls Tryd.prog 10 #[.slice (some ⟨w1.heap.size, 0, none⟩) la (la + 1), .slice a la ca] W fun e w' => e = .returned (.bool true) ∧ w'.cell? ⟨w.heap.size, 0, none⟩ = some (.bool o.num) ∧ w'.cell? ⟨w.heap.size, 1, none⟩ = some (.bool o.fold) ∧ w'.cell? ⟨w.heap.size, 2, none⟩ = some (.bool o.bls) ∧ w'.cell? ⟨w.heap.size, 3, none⟩ = some (.bool o.rev) ∧ w'.cell? ⟨w.heap.size, 4, none⟩ = some (.int .i64 o.fr) ∧ w'.cell? ⟨w.heap.size, 5, none⟩ = some (.int .i64 o.«to») ∧ w'.cell? ⟨w.heap.size, 6, none⟩ = some (.int .u8 (o.sep.toNat : Int)) ∧ Hid (Hd w o w' ∧ Below w2.heap.size w2 w')) := fun W h =>
      (Pa.leftTexts_any w1.heap.size w1.heap.size a la ca A W ((unhide HT).below (unhide h.2.2.2.2.2.2.2).1.2) ⟨own_below (unhide T2).1 (unhide h.2.2.2.2.2.2.2).2, ((unhide h.2.2.2.2.2.2.2).2.cell (p := ⟨w1.heap.size, la, none⟩) (World.block_lt_of_cell? w2 _ (unhide T2).2)).trans (unhide T2).2⟩ (by omega)).mono fun e w' q => ⟨q.1, unhide stp W w' h q.2⟩
    have hSd := unhide mkS w2.drew ⟨(unhide H2).drew, (Below.refl _ _).drew⟩
    have hrr : (r == r) = true := by simp
    clear mkS stp C2 C3 hTw T2
    go_region_held3 (fun w' => w'.cell? ⟨w.heap.size, 0, none⟩ = some (.bool o.num) ∧ w'.cell? ⟨w.heap.size, 1, none⟩ = some (.bool o.fold) ∧ w'.cell? ⟨w.heap.size, 2, none⟩ = some (.bool o.bls) ∧ w'.cell? ⟨w.heap.size, 3, none⟩ = some (.bool o.rev) ∧ w'.cell? ⟨w.heap.size, 4, none⟩ = some (.int .i64 o.fr) ∧ w'.cell? ⟨w.heap.size, 5, none⟩ = some (.int .i64 o.«to») ∧ w'.cell? ⟨w.heap.size, 6, none⟩ = some (.int .u8 (o.sep.toNat : Int)) ∧ Hid (Hd w o w' ∧ Below w2.heap.size w2 w')) (first | (with_reducible assumption) | go_keep)
      (first
        | ((with_reducible refine (unhide K2 _ (by assumption)).mono ?_); rintro e w3 ⟨rfl, hS3⟩)
        | ((with_reducible refine (unhide K3 _ (by assumption)).mono ?_); rintro e w4 ⟨rfl, hS4⟩)
        | ((with_reducible refine (unhide K4 _ (by assumption)).mono ?_); rintro e w5 ⟨rfl, hS5⟩)
        | fail)
    go_wp2_with fail
    go_ret
    exact ⟨rfl, (unhide hS5.2.2.2.2.2.2.2).1.2⟩
  · clear hr
    go_wp2_with fail
    go_ret
    exact ⟨rfl, (unhide H1).2⟩
end Go.Proofs.YtjfjhpakkflceaaDoor.So
