/- What Check of the program answers. -/
import Derived.Test.YtmpppdbomdepoaaGreatDoorSoWrong
import Derived.Deep.RegionHeld3
namespace Go.Proofs.YtmpppdbomdepoaaGreatDoor.So
open Go.RowKit Go.Shelf Ky
open Pa (Tx)

attribute [local go_sem] Oper.semAt_some

theorem badAt_step (o : Ky.Ord) (u : Bool) (A : Ls) (k : Nat) (h : k < A.length) : badAt o u k (A.getD (k - 1) ByteArray.empty) (A.drop k) = if badB o u (A.getD (k - 1) ByteArray.empty) (A.getD k ByteArray.empty) = true then (k : Int) else badAt o u (k + 1) (A.getD k ByteArray.empty) (A.drop (k + 1)) := by
  rw [drop_at h]; rfl
theorem hd_undrew {w W : World} {o : Ky.Ord} (h : Hd w o W.drew) : Hd w o W := ⟨h.1, ⟨h.2.os, h.2.tape, h.2.output, h.2.size, h.2.block⟩⟩
theorem hd_set3 {w W : World} {o : Ky.Ord} {p : Nat} (h : Hd w o W) (hp : w.heap.size < p) (a b c : Value) : Hd w o (((W.setCell ⟨p, 0, none⟩ a).setCell ⟨p, 1, none⟩ b).setCell ⟨p, 2, none⟩ c) :=
  ⟨(Below.heap_setCell _ _ _ _ (by simp; omega)).trans ((Below.heap_setCell _ _ _ _ (by simp; omega)).trans ((Below.heap_setCell _ _ _ _ (by simp; omega)).trans h.1)),
   ((h.2.setCell (p := ⟨p, _, none⟩) (by simp; omega) _).setCell (p := ⟨p, _, none⟩) (by simp; omega) _).setCell (p := ⟨p, _, none⟩) (by simp; omega) _⟩
theorem bx3_newd {W W' : World} {x y z : Value} {e : TypeId} (b : Below (W.alloc (.cells #[x, y, z] e)).drew.heap.size (W.alloc (.cells #[x, y, z] e)).drew W') : W'.heap[W.heap.size]? = some (.cells #[x, y, z] e (0, 0)) ∧ W'.cell? ⟨W.heap.size, 0, none⟩ = some x ∧ W'.cell? ⟨W.heap.size, 1, none⟩ = some y ∧ W'.cell? ⟨W.heap.size, 2, none⟩ = some z ∧ ∀ i, W'.frozen? ⟨W.heap.size, i, none⟩ = false := by
  have h := (b.block W.heap.size (by show W.heap.size < (W.alloc _).heap.size; simp)).trans (heap_alloc_new W (.cells #[x, y, z] e))
  exact ⟨h, cell_of_row _ _ 0 _ _ _ h, cell_of_row _ _ 1 _ _ _ h, cell_of_row _ _ 2 _ _ _ h, fun i => by simp [World.frozen?, h]⟩
theorem set3_blk {W : World} {q : Nat} {x y z : Value} {e : TypeId} (a b c : Value) (h : W.heap[q]? = some (.cells #[x, y, z] e (0, 0))) : (((W.setCell ⟨q, 0, none⟩ a).setCell ⟨q, 1, none⟩ b).setCell ⟨q, 2, none⟩ c).heap[q]? = some (.cells #[a, b, c] e (0, 0)) := row_set _ (row_set _ (row_set _ h))
theorem set3_other {W : World} {q k : Nat} (a b c : Value) (h : k ≠ q) : (((W.setCell ⟨q, 0, none⟩ a).setCell ⟨q, 1, none⟩ b).setCell ⟨q, 2, none⟩ c).heap[k]? = W.heap[k]? :=
  (Below.heap_setCell _ _ _ _ h).trans ((Below.heap_setCell _ _ _ _ h).trans (Below.heap_setCell _ _ _ _ h))
theorem size_ad (W : World) (x : Obj) : W.heap.size ≤ (W.alloc x).drew.heap.size := by show W.heap.size ≤ (W.alloc x).heap.size; simp
theorem kp_set3 {w2 W : World} {q : Nat} (h : Kp (fun _ => False) w2 W) (hq : w2.heap.size ≤ q) (a b c : Value) : Kp (fun _ => False) w2 (((W.setCell ⟨q, 0, none⟩ a).setCell ⟨q, 1, none⟩ b).setCell ⟨q, 2, none⟩ c) :=
  ⟨h.os, h.tape, h.output, by simpa [World.setCell] using h.size, fun i hi hn => (set3_other a b c (by omega)).trans (h.block i hi hn)⟩
theorem keyed_itf (o : Ky.Ord) (x : ByteArray) (i : Nat) : Keyed o (itf o x i) := rfl

set_option maxRecDepth 100000 in
set_option maxHeartbeats 2000000 in
theorem check_anyS (o : Ky.Ord) (u : Bool) (A : Ls) (a : Option Addr) (la ca : Nat) (w : World) (hT : Tx w a la ca A) (hl : la ≤ 4611686018427387904) (hs : ∀ s ∈ A, s.size ≤ 1073741000) :
    Calls Tryz.prog 22 #[ov o, .slice a la ca, .bool u] w fun e w' => e = .returned (.int .i64 (checkL o u A)) ∧ Below w.heap.size w w' := by
  have hlen := hT.len
  have CK := hide (fun W => check_any o W)
  have CW := hide (fun W => wrongBy_any o u W)
  unfold ov at CK CW
  have H0 : Hid (Hd w o (w.alloc (.cells #[.bool o.num, .bool o.fold, .bool o.bls, .bool o.rev, .int .i64 o.fr, .int .i64 o.«to», .int .u8 (o.sep.toNat : Int)] 23))) := Hd.new w o
  by_cases h0 : la = 0
  · have hA : A = [] := List.eq_nil_of_length_eq_zero (by omega)
    have hR : checkL o u A = -1 := by rw [hA]; rfl
    rw [hR]
    subst h0
    unfold ov
    clear hA hR CK CW hlen hT hs
    go_enter Tryz.func22, Tryz.ntmps22
    go_wp2_with fail
    go_ret
    exact ⟨rfl, (unhide H0).2⟩
  · have h0' : ¬ (la : Int) = 0 := by omega
    have hck : checkL o u A = if okO o = false then -1 else badAt o u 1 (A.getD 0 ByteArray.empty) (A.drop 1) := by
      cases A with
      | nil => simp at hlen; omega
      | cons x l => rfl
    cases hok : okO o
    · rw [hok] at CK
      rw [hck, hok, if_pos rfl]
      unfold ov
      clear hck hok CW hs
      go_enter Tryz.func22, Tryz.ntmps22
      go_wp2_with fail
      refine (unhide CK _).mono ?_
      rintro e w1 ⟨rfl, b1⟩
      have H1 := hide ((unhide H0).step b1)
      clear b1 H0 CK
      go_wp2_with fail
      go_ret
      exact ⟨rfl, (unhide H1).2⟩
    · rw [hok] at CK
      rw [hck, hok, if_neg (by simp)]
      have HOK := hide hok
      have CI : Hid (∀ k, k < la → ∀ W, Calls Tryz.prog 77 #[.agg #[.bool o.num, .bool o.fold, .bool o.bls, .bool o.rev, .int .i64 o.fr, .int .i64 o.«to», .int .u8 (o.sep.toNat : Int)], .string (A.getD k ByteArray.empty), .int .i64 k] W fun e w' => e = .returned (ia (itf o (A.getD k ByteArray.empty) k)) ∧ Below W.heap.size W w') := fun k hk W => itemOf_any o _ k W (hs _ (mem_at (by omega)))
      have hDI : Hid (∀ k, k < la → DI (itf o (A.getD k ByteArray.empty) k)) := fun k hk => itf_di o _ k (hs _ (mem_at (by omega)))
      have HT := hide hT
      obtain ⟨R, hR⟩ : ∃ R, R = badAt o u 1 (A.getD 0 ByteArray.empty) (A.drop 1) := ⟨_, rfl⟩
      rw [← hR]
      have HR := hide hR
      unfold ov
      clear hck hok hs hT hR
      go_enter Tryz.func22, Tryz.ntmps22
      go_wp2_with fail
      refine (unhide CK _).mono ?_
      rintro e w1 ⟨rfl, b1⟩
      have H1 := hide ((unhide H0).step b1)
      obtain ⟨d0, d1, d2, d3, d4, d5, d6⟩ := (unhide H1).1.cells
      clear b1 H0 CK
      go_wp2_with fail
      refine (unhide CW _).mono ?_
      rintro e w2 ⟨f, rfl, hF, b2⟩
      have H2 := hide ((unhide H1).step b2)
      have HF := hide hF
      obtain ⟨id, cp, rfl, en, -⟩ := hF
      obtain ⟨ga, ofa, rfl, hga0, -⟩ := tx_at (unhide HT) (show 0 < la by omega)
      obtain ⟨ga', ofa', e', -, hce⟩ := tx_at ((unhide HT).below (unhide H2).2) (show 0 < la by omega)
      obtain ⟨rfl, rfl⟩ : ga = ga' ∧ ofa = ofa' := by simpa using e'
      clear e'
      clear b2 CW d0 d1 d2 d3 d4 d5 d6 H1
      obtain ⟨d0, d1, d2, d3, d4, d5, d6⟩ := (unhide H2).1.cells
      have C0 := hide (unhide CI 0 (by omega))
      obtain ⟨x0, hx0⟩ : ∃ x0, x0 = itf o (A.getD 0 ByteArray.empty) 0 := ⟨_, rfl⟩
      rw [← hx0] at C0
      generalize hy0 : A.getD 0 ByteArray.empty = y0 at hce C0
      obtain ⟨xl, xk, xp⟩ := x0
      unfold ia at C0
      simp only at C0
      have hla : (0 : Int) < (la : Int) := by omega
      have hla' : 0 < la := by omega
      have HX0 := hide hx0
      have HF' : Hid (∀ W, Kp (fun _ => False) w2 W → ∀ a b : It, DI a → DI b → Calls Tryz.prog id (#[ia a, ia b] ++ cp) W fun e w' => e = .returned (.bool (wrg o u a b)) ∧ Below W.heap.size W w') := by
        obtain ⟨i9, c9, e9, _, k9⟩ := unhide HF
        obtain ⟨rfl, rfl⟩ : id = i9 ∧ cp = c9 := by simpa using e9
        exact k9
      clear hx0 hy0
      have C0' : Hid (∀ W, Calls Tryz.prog 77 #[.agg #[.bool o.num, .bool o.fold, .bool o.bls, .bool o.rev, .int .i64 o.fr, .int .i64 o.«to», .int .u8 (o.sep.toNat : Int)], .string y0, .int .i64 0] W fun e w' => e = .returned (.agg #[.string xl, .string xk, .int .i64 xp]) ∧ Below W.heap.size W w') := fun W => unhide C0 W
      clear C0
      have hcw : w.cell? ⟨ga, ofa, none⟩ = some (.string y0) := by
        have q := ((unhide H2).2.cell (p := ⟨ga, ofa + 0, none⟩) hga0).symm.trans hce
        simpa using q
      have hga : (⟨ga, ofa, none⟩ : Addr).block < w.heap.size := hga0
      have mkS : Hid (∀ W, Hd w o W → W.cell? ⟨w.heap.size, 0, none⟩ = some (.bool o.num) ∧ W.cell? ⟨w.heap.size, 1, none⟩ = some (.bool o.fold) ∧ W.cell? ⟨w.heap.size, 2, none⟩ = some (.bool o.bls) ∧ W.cell? ⟨w.heap.size, 3, none⟩ = some (.bool o.rev) ∧ W.cell? ⟨w.heap.size, 4, none⟩ = some (.int .i64 o.fr) ∧ W.cell? ⟨w.heap.size, 5, none⟩ = some (.int .i64 o.«to») ∧ W.cell? ⟨w.heap.size, 6, none⟩ = some (.int .u8 (o.sep.toNat : Int)) ∧ W.cell? ⟨ga, ofa, none⟩ = some (.string y0) ∧ Hid (Hd w o W)) := fun W h => by
        obtain ⟨e0, e1, e2, e3, e4, e5, e6⟩ := h.1.cells
        exact ⟨e0, e1, e2, e3, e4, e5, e6, (h.2.cell (p := ⟨ga, ofa, none⟩) hga).trans hcw, h⟩
      have hal : Hid (∀ W x, W.cell? ⟨w.heap.size, 0, none⟩ = some (.bool o.num) ∧ W.cell? ⟨w.heap.size, 1, none⟩ = some (.bool o.fold) ∧ W.cell? ⟨w.heap.size, 2, none⟩ = some (.bool o.bls) ∧ W.cell? ⟨w.heap.size, 3, none⟩ = some (.bool o.rev) ∧ W.cell? ⟨w.heap.size, 4, none⟩ = some (.int .i64 o.fr) ∧ W.cell? ⟨w.heap.size, 5, none⟩ = some (.int .i64 o.«to») ∧ W.cell? ⟨w.heap.size, 6, none⟩ = some (.int .u8 (o.sep.toNat : Int)) ∧ W.cell? ⟨ga, ofa, none⟩ = some (.string y0) ∧ Hid (Hd w o W) → (W.alloc x).cell? ⟨w.heap.size, 0, none⟩ = some (.bool o.num) ∧ (W.alloc x).cell? ⟨w.heap.size, 1, none⟩ = some (.bool o.fold) ∧ (W.alloc x).cell? ⟨w.heap.size, 2, none⟩ = some (.bool o.bls) ∧ (W.alloc x).cell? ⟨w.heap.size, 3, none⟩ = some (.bool o.rev) ∧ (W.alloc x).cell? ⟨w.heap.size, 4, none⟩ = some (.int .i64 o.fr) ∧ (W.alloc x).cell? ⟨w.heap.size, 5, none⟩ = some (.int .i64 o.«to») ∧ (W.alloc x).cell? ⟨w.heap.size, 6, none⟩ = some (.int .u8 (o.sep.toNat : Int)) ∧ (W.alloc x).cell? ⟨ga, ofa, none⟩ = some (.string y0) ∧ Hid (Hd w o (W.alloc x))) := fun W x h => unhide mkS _ ((unhide h.2.2.2.2.2.2.2.2).step ((Below.refl _ _).alloc (Nat.le_refl _) _))
      have hald : Hid (∀ (W : World) x, W.drew.cell? ⟨w.heap.size, 0, none⟩ = some (.bool o.num) ∧ W.drew.cell? ⟨w.heap.size, 1, none⟩ = some (.bool o.fold) ∧ W.drew.cell? ⟨w.heap.size, 2, none⟩ = some (.bool o.bls) ∧ W.drew.cell? ⟨w.heap.size, 3, none⟩ = some (.bool o.rev) ∧ W.drew.cell? ⟨w.heap.size, 4, none⟩ = some (.int .i64 o.fr) ∧ W.drew.cell? ⟨w.heap.size, 5, none⟩ = some (.int .i64 o.«to») ∧ W.drew.cell? ⟨w.heap.size, 6, none⟩ = some (.int .u8 (o.sep.toNat : Int)) ∧ W.drew.cell? ⟨ga, ofa, none⟩ = some (.string y0) ∧ Hid (Hd w o W.drew) → (W.alloc x).drew.cell? ⟨w.heap.size, 0, none⟩ = some (.bool o.num) ∧ (W.alloc x).drew.cell? ⟨w.heap.size, 1, none⟩ = some (.bool o.fold) ∧ (W.alloc x).drew.cell? ⟨w.heap.size, 2, none⟩ = some (.bool o.bls) ∧ (W.alloc x).drew.cell? ⟨w.heap.size, 3, none⟩ = some (.bool o.rev) ∧ (W.alloc x).drew.cell? ⟨w.heap.size, 4, none⟩ = some (.int .i64 o.fr) ∧ (W.alloc x).drew.cell? ⟨w.heap.size, 5, none⟩ = some (.int .i64 o.«to») ∧ (W.alloc x).drew.cell? ⟨w.heap.size, 6, none⟩ = some (.int .u8 (o.sep.toNat : Int)) ∧ (W.alloc x).drew.cell? ⟨ga, ofa, none⟩ = some (.string y0) ∧ Hid (Hd w o (W.alloc x).drew)) := fun W x h => unhide mkS _ (((hd_undrew (unhide h.2.2.2.2.2.2.2.2)).step ((Below.refl _ _).alloc (Nat.le_refl _) _)).drew)
      have mkH : Hid (∀ W W', W.cell? ⟨w.heap.size, 0, none⟩ = some (.bool o.num) ∧ W.cell? ⟨w.heap.size, 1, none⟩ = some (.bool o.fold) ∧ W.cell? ⟨w.heap.size, 2, none⟩ = some (.bool o.bls) ∧ W.cell? ⟨w.heap.size, 3, none⟩ = some (.bool o.rev) ∧ W.cell? ⟨w.heap.size, 4, none⟩ = some (.int .i64 o.fr) ∧ W.cell? ⟨w.heap.size, 5, none⟩ = some (.int .i64 o.«to») ∧ W.cell? ⟨w.heap.size, 6, none⟩ = some (.int .u8 (o.sep.toNat : Int)) ∧ W.cell? ⟨ga, ofa, none⟩ = some (.string y0) ∧ Hid (Hd w o W) → Below W.heap.size W W' → W'.cell? ⟨w.heap.size, 0, none⟩ = some (.bool o.num) ∧ W'.cell? ⟨w.heap.size, 1, none⟩ = some (.bool o.fold) ∧ W'.cell? ⟨w.heap.size, 2, none⟩ = some (.bool o.bls) ∧ W'.cell? ⟨w.heap.size, 3, none⟩ = some (.bool o.rev) ∧ W'.cell? ⟨w.heap.size, 4, none⟩ = some (.int .i64 o.fr) ∧ W'.cell? ⟨w.heap.size, 5, none⟩ = some (.int .i64 o.«to») ∧ W'.cell? ⟨w.heap.size, 6, none⟩ = some (.int .u8 (o.sep.toNat : Int)) ∧ W'.cell? ⟨ga, ofa, none⟩ = some (.string y0) ∧ Hid (Hd w o W')) := fun W W' h b => unhide mkS _ ((unhide h.2.2.2.2.2.2.2.2).step b)
      have hst : Hid (∀ W p a b c, w.heap.size < p → W.cell? ⟨w.heap.size, 0, none⟩ = some (.bool o.num) ∧ W.cell? ⟨w.heap.size, 1, none⟩ = some (.bool o.fold) ∧ W.cell? ⟨w.heap.size, 2, none⟩ = some (.bool o.bls) ∧ W.cell? ⟨w.heap.size, 3, none⟩ = some (.bool o.rev) ∧ W.cell? ⟨w.heap.size, 4, none⟩ = some (.int .i64 o.fr) ∧ W.cell? ⟨w.heap.size, 5, none⟩ = some (.int .i64 o.«to») ∧ W.cell? ⟨w.heap.size, 6, none⟩ = some (.int .u8 (o.sep.toNat : Int)) ∧ W.cell? ⟨ga, ofa, none⟩ = some (.string y0) ∧ Hid (Hd w o W) → (((W.setCell ⟨p, 0, none⟩ a).setCell ⟨p, 1, none⟩ b).setCell ⟨p, 2, none⟩ c).cell? ⟨w.heap.size, 0, none⟩ = some (.bool o.num) ∧ (((W.setCell ⟨p, 0, none⟩ a).setCell ⟨p, 1, none⟩ b).setCell ⟨p, 2, none⟩ c).cell? ⟨w.heap.size, 1, none⟩ = some (.bool o.fold) ∧ (((W.setCell ⟨p, 0, none⟩ a).setCell ⟨p, 1, none⟩ b).setCell ⟨p, 2, none⟩ c).cell? ⟨w.heap.size, 2, none⟩ = some (.bool o.bls) ∧ (((W.setCell ⟨p, 0, none⟩ a).setCell ⟨p, 1, none⟩ b).setCell ⟨p, 2, none⟩ c).cell? ⟨w.heap.size, 3, none⟩ = some (.bool o.rev) ∧ (((W.setCell ⟨p, 0, none⟩ a).setCell ⟨p, 1, none⟩ b).setCell ⟨p, 2, none⟩ c).cell? ⟨w.heap.size, 4, none⟩ = some (.int .i64 o.fr) ∧ (((W.setCell ⟨p, 0, none⟩ a).setCell ⟨p, 1, none⟩ b).setCell ⟨p, 2, none⟩ c).cell? ⟨w.heap.size, 5, none⟩ = some (.int .i64 o.«to») ∧ (((W.setCell ⟨p, 0, none⟩ a).setCell ⟨p, 1, none⟩ b).setCell ⟨p, 2, none⟩ c).cell? ⟨w.heap.size, 6, none⟩ = some (.int .u8 (o.sep.toNat : Int)) ∧ (((W.setCell ⟨p, 0, none⟩ a).setCell ⟨p, 1, none⟩ b).setCell ⟨p, 2, none⟩ c).cell? ⟨ga, ofa, none⟩ = some (.string y0) ∧ Hid (Hd w o (((W.setCell ⟨p, 0, none⟩ a).setCell ⟨p, 1, none⟩ b).setCell ⟨p, 2, none⟩ c))) := fun W p a b c hp h => unhide mkS _ (hd_set3 (unhide h.2.2.2.2.2.2.2.2) hp a b c)
      have hSb := unhide mkS _ (unhide H2).drew
      have zzw2 : w.heap.size < w2.heap.size := (unhide H2).1.lt
      go_wp2_with fail
      go_region_held3 (fun w' => w'.cell? ⟨w.heap.size, 0, none⟩ = some (.bool o.num) ∧ w'.cell? ⟨w.heap.size, 1, none⟩ = some (.bool o.fold) ∧ w'.cell? ⟨w.heap.size, 2, none⟩ = some (.bool o.bls) ∧ w'.cell? ⟨w.heap.size, 3, none⟩ = some (.bool o.rev) ∧ w'.cell? ⟨w.heap.size, 4, none⟩ = some (.int .i64 o.fr) ∧ w'.cell? ⟨w.heap.size, 5, none⟩ = some (.int .i64 o.«to») ∧ w'.cell? ⟨w.heap.size, 6, none⟩ = some (.int .u8 (o.sep.toNat : Int)) ∧ w'.cell? ⟨ga, ofa, none⟩ = some (.string y0) ∧ Hid (Hd w o w')) (first | (with_reducible assumption) | ((with_reducible refine unhide hal _ _ ?_); (with_reducible assumption)) | ((with_reducible refine unhide hald _ _ ?_); (with_reducible assumption)) | ((with_reducible refine unhide hst _ _ _ _ _ ?_ ?_) <;> first | omega | (with_reducible assumption)))
        (first
          | ((with_reducible refine (unhide C0' _).mono ?_); rintro e w3 ⟨rfl, bw3⟩; have hSw3 : w3.cell? ⟨w.heap.size, 0, none⟩ = some (.bool o.num) ∧ w3.cell? ⟨w.heap.size, 1, none⟩ = some (.bool o.fold) ∧ w3.cell? ⟨w.heap.size, 2, none⟩ = some (.bool o.bls) ∧ w3.cell? ⟨w.heap.size, 3, none⟩ = some (.bool o.rev) ∧ w3.cell? ⟨w.heap.size, 4, none⟩ = some (.int .i64 o.fr) ∧ w3.cell? ⟨w.heap.size, 5, none⟩ = some (.int .i64 o.«to») ∧ w3.cell? ⟨w.heap.size, 6, none⟩ = some (.int .u8 (o.sep.toNat : Int)) ∧ w3.cell? ⟨ga, ofa, none⟩ = some (.string y0) ∧ Hid (Hd w o w3) := unhide mkH _ _ (by assumption) bw3; have zzw3 : w.heap.size < w3.heap.size := (unhide hSw3.2.2.2.2.2.2.2.2).1.lt; (try (have t := bx3_newd bw3; have c0 := t.2.1; have c1 := t.2.2.1; have c2 := t.2.2.2.1; have f0 := t.2.2.2.2 0; have f1 := t.2.2.2.2 1; have f2 := t.2.2.2.2 2; have hblk := hide t.1; clear t)); have Bw3 := hide bw3; clear bw3)
          | fail)
      · have HD9 : Hid (Hd w o (w3.alloc (.cells #[.string xl, .string xk, .int .i64 xp] 66))) := (unhide hSw3.2.2.2.2.2.2.2.2).step ((Below.refl _ _).alloc (Nat.le_refl _) _)
        have HB9 : Hid ((w3.alloc (.cells #[.string xl, .string xk, .int .i64 xp] 66)).heap[w3.heap.size]? = some (.cells #[.string xl, .string xk, .int .i64 xp] 66 (0, 0))) := heap_alloc_new w3 _
        have HK9 : Hid (Kp (fun _ => False) w2 (w3.alloc (.cells #[.string xl, .string xk, .int .i64 xp] 66))) := (((Kp.refl _ w2).drew).step (unhide Bw3)).alloc _
        have hp9 : w2.heap.size ≤ w3.heap.size := (unhide Bw3).size
        generalize w3.heap.size = p at *
        generalize w3.alloc (.cells #[.string xl, .string xk, .int .i64 xp] 66) = W9 at *
        clear hal hald mkS mkH hst hSb hSw3 Bw3
        have hpw' : w.heap.size < p := Nat.lt_of_lt_of_le (unhide H2).1.lt hp9
        have hp90 : p < W9.heap.size := (Array.getElem?_eq_some_iff.1 (unhide HB9)).1
        have HR1 : Hid (R = badAt o u 1 (A.getD 0 ByteArray.empty) (A.drop 1)) := HR
        have CI' := CI
        go_wp2_with fail
        go_loopw [9] (fun v9 wr => ∃ (k : Nat) (x : It), 1 ≤ k ∧ k ≤ la ∧ v9 = .int .i64 k ∧ x = itf o (A.getD (k - 1) ByteArray.empty) (k - 1) ∧ Hid (Hd w o wr) ∧ Hid (wr.heap[p]? = some (.cells #[.string x.line, .string x.key, .int .i64 x.place] 66 (0, 0))) ∧ Hid (Kp (fun _ => False) w2 wr) ∧ p < wr.heap.size ∧ Hid (R = badAt o u k (A.getD (k - 1) ByteArray.empty) (A.drop k))) (fun v9 _ => la - (intOf v9).toNat)
        case atStart => exact ⟨1, ⟨xl, xk, xp⟩, Nat.le_refl _, by omega, rfl, unhide HX0, HD9, HB9, HK9, hp90, HR1⟩
        case round =>
          clear HD9 HB9 HK9 hp90 HR1 HX0 HR
          obtain ⟨k, x, hk1, hkl, rfl, hx, HD, HB, HK, hpr, HRk⟩ := hrel
          by_cases hlt : k < la
          · have hlt' : (k : Int) < (la : Int) := by omega
            have hcw : w.cell? ⟨ga, ofa + k, none⟩ = some (.string (A.getD k ByteArray.empty)) := by
              obtain ⟨g1, o1, e1, _, c1⟩ := tx_at (unhide HT) hlt
              obtain ⟨rfl, rfl⟩ : ga = g1 ∧ ofa = o1 := by simpa using e1
              exact c1
            obtain ⟨y, hy⟩ : ∃ y, y = itf o (A.getD k ByteArray.empty) k := ⟨_, rfl⟩
            have CF : Hid (∀ W, Kp (fun _ => False) w2 W → Calls Tryz.prog id (#[ia x, ia y] ++ cp) W fun e w' => e = .returned (.bool (badB o u (A.getD (k - 1) ByteArray.empty) (A.getD k ByteArray.empty))) ∧ Below W.heap.size W w') := fun W h => by
              have q := unhide HF' W h x y (by rw [hx]; exact unhide hDI (k - 1) (by omega)) (by rw [hy]; exact unhide hDI k hlt)
              rw [wrg_is o (unhide HOK) u x y (by rw [hx]; exact keyed_itf _ _ _) (by rw [hy]; exact keyed_itf _ _ _)] at q
              rw [hx, hy] at q ⊢
              exact q
            have CK := hide (unhide CI' k hlt)
            rw [← hy] at CK
            have hyx := hide hy
            obtain ⟨yl, yk, yp⟩ := y
            obtain ⟨xl, xk, xp⟩ := x
            unfold ia at CK CF
            simp only at CK CF HB
            generalize hyy : A.getD k ByteArray.empty = yy at hcw CK
            have hga : (⟨ga, ofa + k, none⟩ : Addr).block < w.heap.size := hga0
            clear hy hx hyy
            have mkS : Hid (∀ W, Hd w o W → W.cell? ⟨w.heap.size, 0, none⟩ = some (.bool o.num) ∧ W.cell? ⟨w.heap.size, 1, none⟩ = some (.bool o.fold) ∧ W.cell? ⟨w.heap.size, 2, none⟩ = some (.bool o.bls) ∧ W.cell? ⟨w.heap.size, 3, none⟩ = some (.bool o.rev) ∧ W.cell? ⟨w.heap.size, 4, none⟩ = some (.int .i64 o.fr) ∧ W.cell? ⟨w.heap.size, 5, none⟩ = some (.int .i64 o.«to») ∧ W.cell? ⟨w.heap.size, 6, none⟩ = some (.int .u8 (o.sep.toNat : Int)) ∧ W.cell? ⟨ga, ofa + k, none⟩ = some (.string yy) ∧ Hid (Hd w o W)) := fun W h => by
              obtain ⟨e0, e1, e2, e3, e4, e5, e6⟩ := h.1.cells
              exact ⟨e0, e1, e2, e3, e4, e5, e6, (h.2.cell (p := ⟨ga, ofa + k, none⟩) hga).trans hcw, h⟩
            have hal : Hid (∀ W x, W.cell? ⟨w.heap.size, 0, none⟩ = some (.bool o.num) ∧ W.cell? ⟨w.heap.size, 1, none⟩ = some (.bool o.fold) ∧ W.cell? ⟨w.heap.size, 2, none⟩ = some (.bool o.bls) ∧ W.cell? ⟨w.heap.size, 3, none⟩ = some (.bool o.rev) ∧ W.cell? ⟨w.heap.size, 4, none⟩ = some (.int .i64 o.fr) ∧ W.cell? ⟨w.heap.size, 5, none⟩ = some (.int .i64 o.«to») ∧ W.cell? ⟨w.heap.size, 6, none⟩ = some (.int .u8 (o.sep.toNat : Int)) ∧ W.cell? ⟨ga, ofa + k, none⟩ = some (.string yy) ∧ Hid (Hd w o W) → (W.alloc x).cell? ⟨w.heap.size, 0, none⟩ = some (.bool o.num) ∧ (W.alloc x).cell? ⟨w.heap.size, 1, none⟩ = some (.bool o.fold) ∧ (W.alloc x).cell? ⟨w.heap.size, 2, none⟩ = some (.bool o.bls) ∧ (W.alloc x).cell? ⟨w.heap.size, 3, none⟩ = some (.bool o.rev) ∧ (W.alloc x).cell? ⟨w.heap.size, 4, none⟩ = some (.int .i64 o.fr) ∧ (W.alloc x).cell? ⟨w.heap.size, 5, none⟩ = some (.int .i64 o.«to») ∧ (W.alloc x).cell? ⟨w.heap.size, 6, none⟩ = some (.int .u8 (o.sep.toNat : Int)) ∧ (W.alloc x).cell? ⟨ga, ofa + k, none⟩ = some (.string yy) ∧ Hid (Hd w o (W.alloc x))) := fun W x h => unhide mkS _ ((unhide h.2.2.2.2.2.2.2.2).step ((Below.refl _ _).alloc (Nat.le_refl _) _))
            have hald : Hid (∀ (W : World) x, W.drew.cell? ⟨w.heap.size, 0, none⟩ = some (.bool o.num) ∧ W.drew.cell? ⟨w.heap.size, 1, none⟩ = some (.bool o.fold) ∧ W.drew.cell? ⟨w.heap.size, 2, none⟩ = some (.bool o.bls) ∧ W.drew.cell? ⟨w.heap.size, 3, none⟩ = some (.bool o.rev) ∧ W.drew.cell? ⟨w.heap.size, 4, none⟩ = some (.int .i64 o.fr) ∧ W.drew.cell? ⟨w.heap.size, 5, none⟩ = some (.int .i64 o.«to») ∧ W.drew.cell? ⟨w.heap.size, 6, none⟩ = some (.int .u8 (o.sep.toNat : Int)) ∧ W.drew.cell? ⟨ga, ofa + k, none⟩ = some (.string yy) ∧ Hid (Hd w o W.drew) → (W.alloc x).drew.cell? ⟨w.heap.size, 0, none⟩ = some (.bool o.num) ∧ (W.alloc x).drew.cell? ⟨w.heap.size, 1, none⟩ = some (.bool o.fold) ∧ (W.alloc x).drew.cell? ⟨w.heap.size, 2, none⟩ = some (.bool o.bls) ∧ (W.alloc x).drew.cell? ⟨w.heap.size, 3, none⟩ = some (.bool o.rev) ∧ (W.alloc x).drew.cell? ⟨w.heap.size, 4, none⟩ = some (.int .i64 o.fr) ∧ (W.alloc x).drew.cell? ⟨w.heap.size, 5, none⟩ = some (.int .i64 o.«to») ∧ (W.alloc x).drew.cell? ⟨w.heap.size, 6, none⟩ = some (.int .u8 (o.sep.toNat : Int)) ∧ (W.alloc x).drew.cell? ⟨ga, ofa + k, none⟩ = some (.string yy) ∧ Hid (Hd w o (W.alloc x).drew)) := fun W x h => unhide mkS _ (((hd_undrew (unhide h.2.2.2.2.2.2.2.2)).step ((Below.refl _ _).alloc (Nat.le_refl _) _)).drew)
            have mkH : Hid (∀ W W', W.cell? ⟨w.heap.size, 0, none⟩ = some (.bool o.num) ∧ W.cell? ⟨w.heap.size, 1, none⟩ = some (.bool o.fold) ∧ W.cell? ⟨w.heap.size, 2, none⟩ = some (.bool o.bls) ∧ W.cell? ⟨w.heap.size, 3, none⟩ = some (.bool o.rev) ∧ W.cell? ⟨w.heap.size, 4, none⟩ = some (.int .i64 o.fr) ∧ W.cell? ⟨w.heap.size, 5, none⟩ = some (.int .i64 o.«to») ∧ W.cell? ⟨w.heap.size, 6, none⟩ = some (.int .u8 (o.sep.toNat : Int)) ∧ W.cell? ⟨ga, ofa + k, none⟩ = some (.string yy) ∧ Hid (Hd w o W) → Below W.heap.size W W' → W'.cell? ⟨w.heap.size, 0, none⟩ = some (.bool o.num) ∧ W'.cell? ⟨w.heap.size, 1, none⟩ = some (.bool o.fold) ∧ W'.cell? ⟨w.heap.size, 2, none⟩ = some (.bool o.bls) ∧ W'.cell? ⟨w.heap.size, 3, none⟩ = some (.bool o.rev) ∧ W'.cell? ⟨w.heap.size, 4, none⟩ = some (.int .i64 o.fr) ∧ W'.cell? ⟨w.heap.size, 5, none⟩ = some (.int .i64 o.«to») ∧ W'.cell? ⟨w.heap.size, 6, none⟩ = some (.int .u8 (o.sep.toNat : Int)) ∧ W'.cell? ⟨ga, ofa + k, none⟩ = some (.string yy) ∧ Hid (Hd w o W')) := fun W W' h b => unhide mkS _ ((unhide h.2.2.2.2.2.2.2.2).step b)
            have hst : Hid (∀ W p a b c, w.heap.size < p → W.cell? ⟨w.heap.size, 0, none⟩ = some (.bool o.num) ∧ W.cell? ⟨w.heap.size, 1, none⟩ = some (.bool o.fold) ∧ W.cell? ⟨w.heap.size, 2, none⟩ = some (.bool o.bls) ∧ W.cell? ⟨w.heap.size, 3, none⟩ = some (.bool o.rev) ∧ W.cell? ⟨w.heap.size, 4, none⟩ = some (.int .i64 o.fr) ∧ W.cell? ⟨w.heap.size, 5, none⟩ = some (.int .i64 o.«to») ∧ W.cell? ⟨w.heap.size, 6, none⟩ = some (.int .u8 (o.sep.toNat : Int)) ∧ W.cell? ⟨ga, ofa + k, none⟩ = some (.string yy) ∧ Hid (Hd w o W) → (((W.setCell ⟨p, 0, none⟩ a).setCell ⟨p, 1, none⟩ b).setCell ⟨p, 2, none⟩ c).cell? ⟨w.heap.size, 0, none⟩ = some (.bool o.num) ∧ (((W.setCell ⟨p, 0, none⟩ a).setCell ⟨p, 1, none⟩ b).setCell ⟨p, 2, none⟩ c).cell? ⟨w.heap.size, 1, none⟩ = some (.bool o.fold) ∧ (((W.setCell ⟨p, 0, none⟩ a).setCell ⟨p, 1, none⟩ b).setCell ⟨p, 2, none⟩ c).cell? ⟨w.heap.size, 2, none⟩ = some (.bool o.bls) ∧ (((W.setCell ⟨p, 0, none⟩ a).setCell ⟨p, 1, none⟩ b).setCell ⟨p, 2, none⟩ c).cell? ⟨w.heap.size, 3, none⟩ = some (.bool o.rev) ∧ (((W.setCell ⟨p, 0, none⟩ a).setCell ⟨p, 1, none⟩ b).setCell ⟨p, 2, none⟩ c).cell? ⟨w.heap.size, 4, none⟩ = some (.int .i64 o.fr) ∧ (((W.setCell ⟨p, 0, none⟩ a).setCell ⟨p, 1, none⟩ b).setCell ⟨p, 2, none⟩ c).cell? ⟨w.heap.size, 5, none⟩ = some (.int .i64 o.«to») ∧ (((W.setCell ⟨p, 0, none⟩ a).setCell ⟨p, 1, none⟩ b).setCell ⟨p, 2, none⟩ c).cell? ⟨w.heap.size, 6, none⟩ = some (.int .u8 (o.sep.toNat : Int)) ∧ (((W.setCell ⟨p, 0, none⟩ a).setCell ⟨p, 1, none⟩ b).setCell ⟨p, 2, none⟩ c).cell? ⟨ga, ofa + k, none⟩ = some (.string yy) ∧ Hid (Hd w o (((W.setCell ⟨p, 0, none⟩ a).setCell ⟨p, 1, none⟩ b).setCell ⟨p, 2, none⟩ c))) := fun W p a b c hp h => unhide mkS _ (hd_set3 (unhide h.2.2.2.2.2.2.2.2) hp a b c)
            have hSb := unhide mkS _ (unhide HD).drew
            have zzwr : w.heap.size < wr.heap.size := (unhide HD).1.lt
            go_wp2_with fail
            go_region_held3 (fun w' => w'.cell? ⟨w.heap.size, 0, none⟩ = some (.bool o.num) ∧ w'.cell? ⟨w.heap.size, 1, none⟩ = some (.bool o.fold) ∧ w'.cell? ⟨w.heap.size, 2, none⟩ = some (.bool o.bls) ∧ w'.cell? ⟨w.heap.size, 3, none⟩ = some (.bool o.rev) ∧ w'.cell? ⟨w.heap.size, 4, none⟩ = some (.int .i64 o.fr) ∧ w'.cell? ⟨w.heap.size, 5, none⟩ = some (.int .i64 o.«to») ∧ w'.cell? ⟨w.heap.size, 6, none⟩ = some (.int .u8 (o.sep.toNat : Int)) ∧ w'.cell? ⟨ga, ofa + k, none⟩ = some (.string yy) ∧ Hid (Hd w o w')) (first | (with_reducible assumption) | ((with_reducible refine unhide hal _ _ ?_); (with_reducible assumption)) | ((with_reducible refine unhide hald _ _ ?_); (with_reducible assumption)) | ((with_reducible refine unhide hst _ _ _ _ _ ?_ ?_) <;> first | omega | (with_reducible assumption)))
              (first
                | ((with_reducible refine (unhide CK _).mono ?_); rintro e w5 ⟨rfl, bw5⟩; have hSw5 : w5.cell? ⟨w.heap.size, 0, none⟩ = some (.bool o.num) ∧ w5.cell? ⟨w.heap.size, 1, none⟩ = some (.bool o.fold) ∧ w5.cell? ⟨w.heap.size, 2, none⟩ = some (.bool o.bls) ∧ w5.cell? ⟨w.heap.size, 3, none⟩ = some (.bool o.rev) ∧ w5.cell? ⟨w.heap.size, 4, none⟩ = some (.int .i64 o.fr) ∧ w5.cell? ⟨w.heap.size, 5, none⟩ = some (.int .i64 o.«to») ∧ w5.cell? ⟨w.heap.size, 6, none⟩ = some (.int .u8 (o.sep.toNat : Int)) ∧ w5.cell? ⟨ga, ofa + k, none⟩ = some (.string yy) ∧ Hid (Hd w o w5) := unhide mkH _ _ (by assumption) bw5; have zzw5 : w.heap.size < w5.heap.size := (unhide hSw5.2.2.2.2.2.2.2.2).1.lt; (try (have t := bx3_newd bw5; have c0 := t.2.1; have c1 := t.2.2.1; have c2 := t.2.2.2.1; have f0 := t.2.2.2.2 0; have f1 := t.2.2.2.2 1; have f2 := t.2.2.2.2 2; have hblk := hide t.1; clear t)); have Bw5 := hide bw5; clear bw5)
                | fail)
            · have HD6 : Hid (Hd w o (w5.alloc (.cells #[.string yl, .string yk, .int .i64 yp] 66))) := (unhide hSw5.2.2.2.2.2.2.2.2).step ((Below.refl _ _).alloc (Nat.le_refl _) _)
              have HBq : Hid ((w5.alloc (.cells #[.string yl, .string yk, .int .i64 yp] 66)).heap[w5.heap.size]? = some (.cells #[.string yl, .string yk, .int .i64 yp] 66 (0, 0))) := heap_alloc_new w5 _
              have HBp : Hid ((w5.alloc (.cells #[.string yl, .string yk, .int .i64 yp] 66)).heap[p]? = some (.cells #[.string xl, .string xk, .int .i64 xp] 66 (0, 0))) := (Below.heap_alloc _ _ _ (Nat.lt_of_lt_of_le hpr (unhide Bw5).size)).trans (((unhide Bw5).block p hpr).trans (unhide HB))
              have HK6 : Hid (Kp (fun _ => False) w2 (w5.alloc (.cells #[.string yl, .string yk, .int .i64 yp] 66))) := ((unhide HK).drew.step (unhide Bw5)).alloc _
              have hqp : w5.heap.size ≠ p := Nat.ne_of_gt (Nat.lt_of_lt_of_le hpr (unhide Bw5).size)
              have hqw : w2.heap.size ≤ w5.heap.size := Nat.le_trans (unhide HK).size (unhide Bw5).size
              generalize hQ : w5.heap.size = q at *
              generalize w5.alloc (.cells #[.string yl, .string yk, .int .i64 yp] 66) = w6 at *
              have hqw' : w.heap.size < q := Nat.lt_of_lt_of_le (unhide H2).1.lt hqw
              clear hal hald mkS mkH hst hSb hSw5 Bw5 HD HB HK hQ
              have p0 : w6.cell? ⟨p, 0, none⟩ = some (.string xl) := cell_of_row _ _ 0 _ _ _ (unhide HBp)
              have p1 : w6.cell? ⟨p, 1, none⟩ = some (.string xk) := cell_of_row _ _ 1 _ _ _ (unhide HBp)
              have p2 : w6.cell? ⟨p, 2, none⟩ = some (.int .i64 xp) := cell_of_row _ _ 2 _ _ _ (unhide HBp)
              have q0 : w6.cell? ⟨q, 0, none⟩ = some (.string yl) := cell_of_row _ _ 0 _ _ _ (unhide HBq)
              have q1 : w6.cell? ⟨q, 1, none⟩ = some (.string yk) := cell_of_row _ _ 1 _ _ _ (unhide HBq)
              have q2 : w6.cell? ⟨q, 2, none⟩ = some (.int .i64 yp) := cell_of_row _ _ 2 _ _ _ (unhide HBq)
              have CF6 := hide (unhide CF w6 (unhide HK6))
              cases hb : badB o u (A.getD (k - 1) ByteArray.empty) (A.getD k ByteArray.empty)
              · have hR2 : Hid (R = badAt o u (k + 1) (A.getD k ByteArray.empty) (A.drop (k + 1))) := by have q := unhide HRk; rw [badAt_step o u A k (by omega), hb, if_neg (by simp)] at q; exact q
                rw [hb] at CF6
                clear hb HRk
                go_wp2_with fail
                refine (unhide CF6).mono ?_
                rintro e w7 ⟨rfl, b7⟩
                have HD7 := hide ((unhide HD6).step b7)
                have HBp7 := hide ((b7.block p (Array.getElem?_eq_some_iff.1 (unhide HBp)).1).trans (unhide HBp))
                have HBq7 := hide ((b7.block q (Array.getElem?_eq_some_iff.1 (unhide HBq)).1).trans (unhide HBq))
                have HK7 := hide ((unhide HK6).step b7)
                clear b7 CF6 HD6 HBp HBq HK6 p0 p1 p2 q0 q1 q2
                have p0 : w7.cell? ⟨p, 0, none⟩ = some (.string xl) := cell_of_row _ _ 0 _ _ _ (unhide HBp7)
                have p1 : w7.cell? ⟨p, 1, none⟩ = some (.string xk) := cell_of_row _ _ 1 _ _ _ (unhide HBp7)
                have p2 : w7.cell? ⟨p, 2, none⟩ = some (.int .i64 xp) := cell_of_row _ _ 2 _ _ _ (unhide HBp7)
                have q0 : w7.cell? ⟨q, 0, none⟩ = some (.string yl) := cell_of_row _ _ 0 _ _ _ (unhide HBq7)
                have q1 : w7.cell? ⟨q, 1, none⟩ = some (.string yk) := cell_of_row _ _ 1 _ _ _ (unhide HBq7)
                have q2 : w7.cell? ⟨q, 2, none⟩ = some (.int .i64 yp) := cell_of_row _ _ 2 _ _ _ (unhide HBq7)
                have fp0 : w7.frozen? ⟨p, 0, none⟩ = false := by simp [World.frozen?, unhide HBp7]
                have fp1 : w7.frozen? ⟨p, 1, none⟩ = false := by simp [World.frozen?, unhide HBp7]
                have fp2 : w7.frozen? ⟨p, 2, none⟩ = false := by simp [World.frozen?, unhide HBp7]
                have HD8 := hide (hd_set3 (unhide HD7) hpw' (.string yl) (.string yk) (.int .i64 yp))
                have HB8 : Hid ((((w7.setCell ⟨p, 0, none⟩ (.string yl)).setCell ⟨p, 1, none⟩ (.string yk)).setCell ⟨p, 2, none⟩ (.int .i64 yp)).heap[p]? = some (.cells #[.string yl, .string yk, .int .i64 yp] 66 (0, 0))) := set3_blk _ _ _ (unhide HBp7)
                have HK8 := hide (kp_set3 (unhide HK7) hp9 (.string yl) (.string yk) (.int .i64 yp))
                have hp8 : p < (((w7.setCell ⟨p, 0, none⟩ (.string yl)).setCell ⟨p, 1, none⟩ (.string yk)).setCell ⟨p, 2, none⟩ (.int .i64 yp)).heap.size := (Array.getElem?_eq_some_iff.1 (unhide HB8)).1
                clear HD7 HBp7 HBq7 HK7
                go_wp2_with fail
                go_roundw
                case rel => exact ⟨k + 1, ⟨yl, yk, yp⟩, by omega, by omega, by go_num, by rw [Nat.add_sub_cancel]; exact unhide hyx, HD8, HB8, HK8, hp8, by rw [Nat.add_sub_cancel]; exact hR2⟩
                case measure => simp [intOf]; omega
              · have hR2 : Hid (R = (k : Int)) := by have q := unhide HRk; rw [badAt_step o u A k (by omega), hb, if_pos rfl] at q; exact q
                rw [hb] at CF6
                clear hb HRk
                go_wp2_with fail
                refine (unhide CF6).mono ?_
                rintro e w7 ⟨rfl, b7⟩
                have HD7 := hide ((unhide HD6).step b7)
                clear b7 CF6 HD6 HBp HBq HK6 p0 p1 p2 q0 q1 q2
                go_wp2_with fail
                go_ret
                exact ⟨by rw [unhide hR2]; rfl, (unhide HD7).2⟩
            · have HD6 : Hid (Hd w o (((w5.setCell ⟨wr.heap.size, 0, none⟩ (.string yl)).setCell ⟨wr.heap.size, 1, none⟩ (.string yk)).setCell ⟨wr.heap.size, 2, none⟩ (.int .i64 yp))) := hd_set3 (unhide hSw5.2.2.2.2.2.2.2.2) (unhide HD).1.lt _ _ _
              have HBq : Hid ((((w5.setCell ⟨wr.heap.size, 0, none⟩ (.string yl)).setCell ⟨wr.heap.size, 1, none⟩ (.string yk)).setCell ⟨wr.heap.size, 2, none⟩ (.int .i64 yp)).heap[wr.heap.size]? = some (.cells #[.string yl, .string yk, .int .i64 yp] 66 (0, 0))) := set3_blk _ _ _ (unhide hblk)
              have HBp : Hid ((((w5.setCell ⟨wr.heap.size, 0, none⟩ (.string yl)).setCell ⟨wr.heap.size, 1, none⟩ (.string yk)).setCell ⟨wr.heap.size, 2, none⟩ (.int .i64 yp)).heap[p]? = some (.cells #[.string xl, .string xk, .int .i64 xp] 66 (0, 0))) := (set3_other _ _ _ (by omega)).trans (((unhide Bw5).block p (Nat.lt_of_lt_of_le hpr (size_ad wr _))).trans ((Below.heap_alloc _ _ _ hpr).trans (unhide HB)))
              have HK6 : Hid (Kp (fun _ => False) w2 (((w5.setCell ⟨wr.heap.size, 0, none⟩ (.string yl)).setCell ⟨wr.heap.size, 1, none⟩ (.string yk)).setCell ⟨wr.heap.size, 2, none⟩ (.int .i64 yp))) := kp_set3 (((unhide HK).alloc _).drew.step (unhide Bw5)) (unhide HK).size _ _ _
              have hqp : wr.heap.size ≠ p := by omega
              have hqw : w2.heap.size ≤ wr.heap.size := (unhide HK).size
              generalize hQ : wr.heap.size = q at *
              generalize (((w5.setCell ⟨q, 0, none⟩ (.string yl)).setCell ⟨q, 1, none⟩ (.string yk)).setCell ⟨q, 2, none⟩ (.int .i64 yp)) = w6 at *
              have hqw' : w.heap.size < q := Nat.lt_of_lt_of_le (unhide H2).1.lt hqw
              clear hal hald mkS mkH hst hSb hSw5 Bw5 HD HB HK hQ
              have p0 : w6.cell? ⟨p, 0, none⟩ = some (.string xl) := cell_of_row _ _ 0 _ _ _ (unhide HBp)
              have p1 : w6.cell? ⟨p, 1, none⟩ = some (.string xk) := cell_of_row _ _ 1 _ _ _ (unhide HBp)
              have p2 : w6.cell? ⟨p, 2, none⟩ = some (.int .i64 xp) := cell_of_row _ _ 2 _ _ _ (unhide HBp)
              have q0 : w6.cell? ⟨q, 0, none⟩ = some (.string yl) := cell_of_row _ _ 0 _ _ _ (unhide HBq)
              have q1 : w6.cell? ⟨q, 1, none⟩ = some (.string yk) := cell_of_row _ _ 1 _ _ _ (unhide HBq)
              have q2 : w6.cell? ⟨q, 2, none⟩ = some (.int .i64 yp) := cell_of_row _ _ 2 _ _ _ (unhide HBq)
              have CF6 := hide (unhide CF w6 (unhide HK6))
              cases hb : badB o u (A.getD (k - 1) ByteArray.empty) (A.getD k ByteArray.empty)
              · have hR2 : Hid (R = badAt o u (k + 1) (A.getD k ByteArray.empty) (A.drop (k + 1))) := by have q := unhide HRk; rw [badAt_step o u A k (by omega), hb, if_neg (by simp)] at q; exact q
                rw [hb] at CF6
                clear hb HRk
                go_wp2_with fail
                refine (unhide CF6).mono ?_
                rintro e w7 ⟨rfl, b7⟩
                have HD7 := hide ((unhide HD6).step b7)
                have HBp7 := hide ((b7.block p (Array.getElem?_eq_some_iff.1 (unhide HBp)).1).trans (unhide HBp))
                have HBq7 := hide ((b7.block q (Array.getElem?_eq_some_iff.1 (unhide HBq)).1).trans (unhide HBq))
                have HK7 := hide ((unhide HK6).step b7)
                clear b7 CF6 HD6 HBp HBq HK6 p0 p1 p2 q0 q1 q2
                have p0 : w7.cell? ⟨p, 0, none⟩ = some (.string xl) := cell_of_row _ _ 0 _ _ _ (unhide HBp7)
                have p1 : w7.cell? ⟨p, 1, none⟩ = some (.string xk) := cell_of_row _ _ 1 _ _ _ (unhide HBp7)
                have p2 : w7.cell? ⟨p, 2, none⟩ = some (.int .i64 xp) := cell_of_row _ _ 2 _ _ _ (unhide HBp7)
                have q0 : w7.cell? ⟨q, 0, none⟩ = some (.string yl) := cell_of_row _ _ 0 _ _ _ (unhide HBq7)
                have q1 : w7.cell? ⟨q, 1, none⟩ = some (.string yk) := cell_of_row _ _ 1 _ _ _ (unhide HBq7)
                have q2 : w7.cell? ⟨q, 2, none⟩ = some (.int .i64 yp) := cell_of_row _ _ 2 _ _ _ (unhide HBq7)
                have fp0 : w7.frozen? ⟨p, 0, none⟩ = false := by simp [World.frozen?, unhide HBp7]
                have fp1 : w7.frozen? ⟨p, 1, none⟩ = false := by simp [World.frozen?, unhide HBp7]
                have fp2 : w7.frozen? ⟨p, 2, none⟩ = false := by simp [World.frozen?, unhide HBp7]
                have HD8 := hide (hd_set3 (unhide HD7) hpw' (.string yl) (.string yk) (.int .i64 yp))
                have HB8 : Hid ((((w7.setCell ⟨p, 0, none⟩ (.string yl)).setCell ⟨p, 1, none⟩ (.string yk)).setCell ⟨p, 2, none⟩ (.int .i64 yp)).heap[p]? = some (.cells #[.string yl, .string yk, .int .i64 yp] 66 (0, 0))) := set3_blk _ _ _ (unhide HBp7)
                have HK8 := hide (kp_set3 (unhide HK7) hp9 (.string yl) (.string yk) (.int .i64 yp))
                have hp8 : p < (((w7.setCell ⟨p, 0, none⟩ (.string yl)).setCell ⟨p, 1, none⟩ (.string yk)).setCell ⟨p, 2, none⟩ (.int .i64 yp)).heap.size := (Array.getElem?_eq_some_iff.1 (unhide HB8)).1
                clear HD7 HBp7 HBq7 HK7
                go_wp2_with fail
                go_roundw
                case rel => exact ⟨k + 1, ⟨yl, yk, yp⟩, by omega, by omega, by go_num, by rw [Nat.add_sub_cancel]; exact unhide hyx, HD8, HB8, HK8, hp8, by rw [Nat.add_sub_cancel]; exact hR2⟩
                case measure => simp [intOf]; omega
              · have hR2 : Hid (R = (k : Int)) := by have q := unhide HRk; rw [badAt_step o u A k (by omega), hb, if_pos rfl] at q; exact q
                rw [hb] at CF6
                clear hb HRk
                go_wp2_with fail
                refine (unhide CF6).mono ?_
                rintro e w7 ⟨rfl, b7⟩
                have HD7 := hide ((unhide HD6).step b7)
                clear b7 CF6 HD6 HBp HBq HK6 p0 p1 p2 q0 q1 q2
                go_wp2_with fail
                go_ret
                exact ⟨by rw [unhide hR2]; rfl, (unhide HD7).2⟩
          · have hR2 : Hid (R = -1) := by have q := unhide HRk; rw [List.drop_eq_nil_of_le (by omega)] at q; exact q
            have hlt' : ¬ (k : Int) < (la : Int) := by omega
            go_wp2_with fail
            go_ret
            exact ⟨by rw [unhide hR2]; rfl, (unhide HD).2⟩
      · have HD9 : Hid (Hd w o (((w3.setCell ⟨w2.heap.size, 0, none⟩ (.string xl)).setCell ⟨w2.heap.size, 1, none⟩ (.string xk)).setCell ⟨w2.heap.size, 2, none⟩ (.int .i64 xp))) := hd_set3 (unhide hSw3.2.2.2.2.2.2.2.2) (unhide H2).1.lt _ _ _
        have HB9 : Hid ((((w3.setCell ⟨w2.heap.size, 0, none⟩ (.string xl)).setCell ⟨w2.heap.size, 1, none⟩ (.string xk)).setCell ⟨w2.heap.size, 2, none⟩ (.int .i64 xp)).heap[w2.heap.size]? = some (.cells #[.string xl, .string xk, .int .i64 xp] 66 (0, 0))) := set3_blk _ _ _ (unhide hblk)
        have HK9 : Hid (Kp (fun _ => False) w2 (((w3.setCell ⟨w2.heap.size, 0, none⟩ (.string xl)).setCell ⟨w2.heap.size, 1, none⟩ (.string xk)).setCell ⟨w2.heap.size, 2, none⟩ (.int .i64 xp))) := kp_set3 ((((Kp.refl _ w2).alloc _).drew).step (unhide Bw3)) (Nat.le_refl _) _ _ _
        obtain ⟨p, hp⟩ : ∃ p, p = w2.heap.size := ⟨_, rfl⟩
        have hp9 : w2.heap.size ≤ p := by omega
        rw [← hp] at HD9 HB9 HK9 ⊢
        generalize (((w3.setCell ⟨p, 0, none⟩ (.string xl)).setCell ⟨p, 1, none⟩ (.string xk)).setCell ⟨p, 2, none⟩ (.int .i64 xp)) = W9 at *
        clear hal hald mkS mkH hst hSb hSw3 Bw3 hp hblk c0 c1 c2 f0 f1 f2
        have hpw' : w.heap.size < p := Nat.lt_of_lt_of_le (unhide H2).1.lt hp9
        have hp90 : p < W9.heap.size := (Array.getElem?_eq_some_iff.1 (unhide HB9)).1
        have HR1 : Hid (R = badAt o u 1 (A.getD 0 ByteArray.empty) (A.drop 1)) := HR
        have CI' := CI
        go_wp2_with fail
        go_loopw [9] (fun v9 wr => ∃ (k : Nat) (x : It), 1 ≤ k ∧ k ≤ la ∧ v9 = .int .i64 k ∧ x = itf o (A.getD (k - 1) ByteArray.empty) (k - 1) ∧ Hid (Hd w o wr) ∧ Hid (wr.heap[p]? = some (.cells #[.string x.line, .string x.key, .int .i64 x.place] 66 (0, 0))) ∧ Hid (Kp (fun _ => False) w2 wr) ∧ p < wr.heap.size ∧ Hid (R = badAt o u k (A.getD (k - 1) ByteArray.empty) (A.drop k))) (fun v9 _ => la - (intOf v9).toNat)
        case atStart => exact ⟨1, ⟨xl, xk, xp⟩, Nat.le_refl _, by omega, rfl, unhide HX0, HD9, HB9, HK9, hp90, HR1⟩
        case round =>
          clear HD9 HB9 HK9 hp90 HR1 HX0 HR
          obtain ⟨k, x, hk1, hkl, rfl, hx, HD, HB, HK, hpr, HRk⟩ := hrel
          by_cases hlt : k < la
          · have hlt' : (k : Int) < (la : Int) := by omega
            have hcw : w.cell? ⟨ga, ofa + k, none⟩ = some (.string (A.getD k ByteArray.empty)) := by
              obtain ⟨g1, o1, e1, _, c1⟩ := tx_at (unhide HT) hlt
              obtain ⟨rfl, rfl⟩ : ga = g1 ∧ ofa = o1 := by simpa using e1
              exact c1
            obtain ⟨y, hy⟩ : ∃ y, y = itf o (A.getD k ByteArray.empty) k := ⟨_, rfl⟩
            have CF : Hid (∀ W, Kp (fun _ => False) w2 W → Calls Tryz.prog id (#[ia x, ia y] ++ cp) W fun e w' => e = .returned (.bool (badB o u (A.getD (k - 1) ByteArray.empty) (A.getD k ByteArray.empty))) ∧ Below W.heap.size W w') := fun W h => by
              have q := unhide HF' W h x y (by rw [hx]; exact unhide hDI (k - 1) (by omega)) (by rw [hy]; exact unhide hDI k hlt)
              rw [wrg_is o (unhide HOK) u x y (by rw [hx]; exact keyed_itf _ _ _) (by rw [hy]; exact keyed_itf _ _ _)] at q
              rw [hx, hy] at q ⊢
              exact q
            have CK := hide (unhide CI' k hlt)
            rw [← hy] at CK
            have hyx := hide hy
            obtain ⟨yl, yk, yp⟩ := y
            obtain ⟨xl, xk, xp⟩ := x
            unfold ia at CK CF
            simp only at CK CF HB
            generalize hyy : A.getD k ByteArray.empty = yy at hcw CK
            have hga : (⟨ga, ofa + k, none⟩ : Addr).block < w.heap.size := hga0
            clear hy hx hyy
            have mkS : Hid (∀ W, Hd w o W → W.cell? ⟨w.heap.size, 0, none⟩ = some (.bool o.num) ∧ W.cell? ⟨w.heap.size, 1, none⟩ = some (.bool o.fold) ∧ W.cell? ⟨w.heap.size, 2, none⟩ = some (.bool o.bls) ∧ W.cell? ⟨w.heap.size, 3, none⟩ = some (.bool o.rev) ∧ W.cell? ⟨w.heap.size, 4, none⟩ = some (.int .i64 o.fr) ∧ W.cell? ⟨w.heap.size, 5, none⟩ = some (.int .i64 o.«to») ∧ W.cell? ⟨w.heap.size, 6, none⟩ = some (.int .u8 (o.sep.toNat : Int)) ∧ W.cell? ⟨ga, ofa + k, none⟩ = some (.string yy) ∧ Hid (Hd w o W)) := fun W h => by
              obtain ⟨e0, e1, e2, e3, e4, e5, e6⟩ := h.1.cells
              exact ⟨e0, e1, e2, e3, e4, e5, e6, (h.2.cell (p := ⟨ga, ofa + k, none⟩) hga).trans hcw, h⟩
            have hal : Hid (∀ W x, W.cell? ⟨w.heap.size, 0, none⟩ = some (.bool o.num) ∧ W.cell? ⟨w.heap.size, 1, none⟩ = some (.bool o.fold) ∧ W.cell? ⟨w.heap.size, 2, none⟩ = some (.bool o.bls) ∧ W.cell? ⟨w.heap.size, 3, none⟩ = some (.bool o.rev) ∧ W.cell? ⟨w.heap.size, 4, none⟩ = some (.int .i64 o.fr) ∧ W.cell? ⟨w.heap.size, 5, none⟩ = some (.int .i64 o.«to») ∧ W.cell? ⟨w.heap.size, 6, none⟩ = some (.int .u8 (o.sep.toNat : Int)) ∧ W.cell? ⟨ga, ofa + k, none⟩ = some (.string yy) ∧ Hid (Hd w o W) → (W.alloc x).cell? ⟨w.heap.size, 0, none⟩ = some (.bool o.num) ∧ (W.alloc x).cell? ⟨w.heap.size, 1, none⟩ = some (.bool o.fold) ∧ (W.alloc x).cell? ⟨w.heap.size, 2, none⟩ = some (.bool o.bls) ∧ (W.alloc x).cell? ⟨w.heap.size, 3, none⟩ = some (.bool o.rev) ∧ (W.alloc x).cell? ⟨w.heap.size, 4, none⟩ = some (.int .i64 o.fr) ∧ (W.alloc x).cell? ⟨w.heap.size, 5, none⟩ = some (.int .i64 o.«to») ∧ (W.alloc x).cell? ⟨w.heap.size, 6, none⟩ = some (.int .u8 (o.sep.toNat : Int)) ∧ (W.alloc x).cell? ⟨ga, ofa + k, none⟩ = some (.string yy) ∧ Hid (Hd w o (W.alloc x))) := fun W x h => unhide mkS _ ((unhide h.2.2.2.2.2.2.2.2).step ((Below.refl _ _).alloc (Nat.le_refl _) _))
            have hald : Hid (∀ (W : World) x, W.drew.cell? ⟨w.heap.size, 0, none⟩ = some (.bool o.num) ∧ W.drew.cell? ⟨w.heap.size, 1, none⟩ = some (.bool o.fold) ∧ W.drew.cell? ⟨w.heap.size, 2, none⟩ = some (.bool o.bls) ∧ W.drew.cell? ⟨w.heap.size, 3, none⟩ = some (.bool o.rev) ∧ W.drew.cell? ⟨w.heap.size, 4, none⟩ = some (.int .i64 o.fr) ∧ W.drew.cell? ⟨w.heap.size, 5, none⟩ = some (.int .i64 o.«to») ∧ W.drew.cell? ⟨w.heap.size, 6, none⟩ = some (.int .u8 (o.sep.toNat : Int)) ∧ W.drew.cell? ⟨ga, ofa + k, none⟩ = some (.string yy) ∧ Hid (Hd w o W.drew) → (W.alloc x).drew.cell? ⟨w.heap.size, 0, none⟩ = some (.bool o.num) ∧ (W.alloc x).drew.cell? ⟨w.heap.size, 1, none⟩ = some (.bool o.fold) ∧ (W.alloc x).drew.cell? ⟨w.heap.size, 2, none⟩ = some (.bool o.bls) ∧ (W.alloc x).drew.cell? ⟨w.heap.size, 3, none⟩ = some (.bool o.rev) ∧ (W.alloc x).drew.cell? ⟨w.heap.size, 4, none⟩ = some (.int .i64 o.fr) ∧ (W.alloc x).drew.cell? ⟨w.heap.size, 5, none⟩ = some (.int .i64 o.«to») ∧ (W.alloc x).drew.cell? ⟨w.heap.size, 6, none⟩ = some (.int .u8 (o.sep.toNat : Int)) ∧ (W.alloc x).drew.cell? ⟨ga, ofa + k, none⟩ = some (.string yy) ∧ Hid (Hd w o (W.alloc x).drew)) := fun W x h => unhide mkS _ (((hd_undrew (unhide h.2.2.2.2.2.2.2.2)).step ((Below.refl _ _).alloc (Nat.le_refl _) _)).drew)
            have mkH : Hid (∀ W W', W.cell? ⟨w.heap.size, 0, none⟩ = some (.bool o.num) ∧ W.cell? ⟨w.heap.size, 1, none⟩ = some (.bool o.fold) ∧ W.cell? ⟨w.heap.size, 2, none⟩ = some (.bool o.bls) ∧ W.cell? ⟨w.heap.size, 3, none⟩ = some (.bool o.rev) ∧ W.cell? ⟨w.heap.size, 4, none⟩ = some (.int .i64 o.fr) ∧ W.cell? ⟨w.heap.size, 5, none⟩ = some (.int .i64 o.«to») ∧ W.cell? ⟨w.heap.size, 6, none⟩ = some (.int .u8 (o.sep.toNat : Int)) ∧ W.cell? ⟨ga, ofa + k, none⟩ = some (.string yy) ∧ Hid (Hd w o W) → Below W.heap.size W W' → W'.cell? ⟨w.heap.size, 0, none⟩ = some (.bool o.num) ∧ W'.cell? ⟨w.heap.size, 1, none⟩ = some (.bool o.fold) ∧ W'.cell? ⟨w.heap.size, 2, none⟩ = some (.bool o.bls) ∧ W'.cell? ⟨w.heap.size, 3, none⟩ = some (.bool o.rev) ∧ W'.cell? ⟨w.heap.size, 4, none⟩ = some (.int .i64 o.fr) ∧ W'.cell? ⟨w.heap.size, 5, none⟩ = some (.int .i64 o.«to») ∧ W'.cell? ⟨w.heap.size, 6, none⟩ = some (.int .u8 (o.sep.toNat : Int)) ∧ W'.cell? ⟨ga, ofa + k, none⟩ = some (.string yy) ∧ Hid (Hd w o W')) := fun W W' h b => unhide mkS _ ((unhide h.2.2.2.2.2.2.2.2).step b)
            have hst : Hid (∀ W p a b c, w.heap.size < p → W.cell? ⟨w.heap.size, 0, none⟩ = some (.bool o.num) ∧ W.cell? ⟨w.heap.size, 1, none⟩ = some (.bool o.fold) ∧ W.cell? ⟨w.heap.size, 2, none⟩ = some (.bool o.bls) ∧ W.cell? ⟨w.heap.size, 3, none⟩ = some (.bool o.rev) ∧ W.cell? ⟨w.heap.size, 4, none⟩ = some (.int .i64 o.fr) ∧ W.cell? ⟨w.heap.size, 5, none⟩ = some (.int .i64 o.«to») ∧ W.cell? ⟨w.heap.size, 6, none⟩ = some (.int .u8 (o.sep.toNat : Int)) ∧ W.cell? ⟨ga, ofa + k, none⟩ = some (.string yy) ∧ Hid (Hd w o W) → (((W.setCell ⟨p, 0, none⟩ a).setCell ⟨p, 1, none⟩ b).setCell ⟨p, 2, none⟩ c).cell? ⟨w.heap.size, 0, none⟩ = some (.bool o.num) ∧ (((W.setCell ⟨p, 0, none⟩ a).setCell ⟨p, 1, none⟩ b).setCell ⟨p, 2, none⟩ c).cell? ⟨w.heap.size, 1, none⟩ = some (.bool o.fold) ∧ (((W.setCell ⟨p, 0, none⟩ a).setCell ⟨p, 1, none⟩ b).setCell ⟨p, 2, none⟩ c).cell? ⟨w.heap.size, 2, none⟩ = some (.bool o.bls) ∧ (((W.setCell ⟨p, 0, none⟩ a).setCell ⟨p, 1, none⟩ b).setCell ⟨p, 2, none⟩ c).cell? ⟨w.heap.size, 3, none⟩ = some (.bool o.rev) ∧ (((W.setCell ⟨p, 0, none⟩ a).setCell ⟨p, 1, none⟩ b).setCell ⟨p, 2, none⟩ c).cell? ⟨w.heap.size, 4, none⟩ = some (.int .i64 o.fr) ∧ (((W.setCell ⟨p, 0, none⟩ a).setCell ⟨p, 1, none⟩ b).setCell ⟨p, 2, none⟩ c).cell? ⟨w.heap.size, 5, none⟩ = some (.int .i64 o.«to») ∧ (((W.setCell ⟨p, 0, none⟩ a).setCell ⟨p, 1, none⟩ b).setCell ⟨p, 2, none⟩ c).cell? ⟨w.heap.size, 6, none⟩ = some (.int .u8 (o.sep.toNat : Int)) ∧ (((W.setCell ⟨p, 0, none⟩ a).setCell ⟨p, 1, none⟩ b).setCell ⟨p, 2, none⟩ c).cell? ⟨ga, ofa + k, none⟩ = some (.string yy) ∧ Hid (Hd w o (((W.setCell ⟨p, 0, none⟩ a).setCell ⟨p, 1, none⟩ b).setCell ⟨p, 2, none⟩ c))) := fun W p a b c hp h => unhide mkS _ (hd_set3 (unhide h.2.2.2.2.2.2.2.2) hp a b c)
            have hSb := unhide mkS _ (unhide HD).drew
            have zzwr : w.heap.size < wr.heap.size := (unhide HD).1.lt
            go_wp2_with fail
            go_region_held3 (fun w' => w'.cell? ⟨w.heap.size, 0, none⟩ = some (.bool o.num) ∧ w'.cell? ⟨w.heap.size, 1, none⟩ = some (.bool o.fold) ∧ w'.cell? ⟨w.heap.size, 2, none⟩ = some (.bool o.bls) ∧ w'.cell? ⟨w.heap.size, 3, none⟩ = some (.bool o.rev) ∧ w'.cell? ⟨w.heap.size, 4, none⟩ = some (.int .i64 o.fr) ∧ w'.cell? ⟨w.heap.size, 5, none⟩ = some (.int .i64 o.«to») ∧ w'.cell? ⟨w.heap.size, 6, none⟩ = some (.int .u8 (o.sep.toNat : Int)) ∧ w'.cell? ⟨ga, ofa + k, none⟩ = some (.string yy) ∧ Hid (Hd w o w')) (first | (with_reducible assumption) | ((with_reducible refine unhide hal _ _ ?_); (with_reducible assumption)) | ((with_reducible refine unhide hald _ _ ?_); (with_reducible assumption)) | ((with_reducible refine unhide hst _ _ _ _ _ ?_ ?_) <;> first | omega | (with_reducible assumption)))
              (first
                | ((with_reducible refine (unhide CK _).mono ?_); rintro e w5 ⟨rfl, bw5⟩; have hSw5 : w5.cell? ⟨w.heap.size, 0, none⟩ = some (.bool o.num) ∧ w5.cell? ⟨w.heap.size, 1, none⟩ = some (.bool o.fold) ∧ w5.cell? ⟨w.heap.size, 2, none⟩ = some (.bool o.bls) ∧ w5.cell? ⟨w.heap.size, 3, none⟩ = some (.bool o.rev) ∧ w5.cell? ⟨w.heap.size, 4, none⟩ = some (.int .i64 o.fr) ∧ w5.cell? ⟨w.heap.size, 5, none⟩ = some (.int .i64 o.«to») ∧ w5.cell? ⟨w.heap.size, 6, none⟩ = some (.int .u8 (o.sep.toNat : Int)) ∧ w5.cell? ⟨ga, ofa + k, none⟩ = some (.string yy) ∧ Hid (Hd w o w5) := unhide mkH _ _ (by assumption) bw5; have zzw5 : w.heap.size < w5.heap.size := (unhide hSw5.2.2.2.2.2.2.2.2).1.lt; (try (have t := bx3_newd bw5; have c0 := t.2.1; have c1 := t.2.2.1; have c2 := t.2.2.2.1; have f0 := t.2.2.2.2 0; have f1 := t.2.2.2.2 1; have f2 := t.2.2.2.2 2; have hblk := hide t.1; clear t)); have Bw5 := hide bw5; clear bw5)
                | fail)
            · have HD6 : Hid (Hd w o (w5.alloc (.cells #[.string yl, .string yk, .int .i64 yp] 66))) := (unhide hSw5.2.2.2.2.2.2.2.2).step ((Below.refl _ _).alloc (Nat.le_refl _) _)
              have HBq : Hid ((w5.alloc (.cells #[.string yl, .string yk, .int .i64 yp] 66)).heap[w5.heap.size]? = some (.cells #[.string yl, .string yk, .int .i64 yp] 66 (0, 0))) := heap_alloc_new w5 _
              have HBp : Hid ((w5.alloc (.cells #[.string yl, .string yk, .int .i64 yp] 66)).heap[p]? = some (.cells #[.string xl, .string xk, .int .i64 xp] 66 (0, 0))) := (Below.heap_alloc _ _ _ (Nat.lt_of_lt_of_le hpr (unhide Bw5).size)).trans (((unhide Bw5).block p hpr).trans (unhide HB))
              have HK6 : Hid (Kp (fun _ => False) w2 (w5.alloc (.cells #[.string yl, .string yk, .int .i64 yp] 66))) := ((unhide HK).drew.step (unhide Bw5)).alloc _
              have hqp : w5.heap.size ≠ p := Nat.ne_of_gt (Nat.lt_of_lt_of_le hpr (unhide Bw5).size)
              have hqw : w2.heap.size ≤ w5.heap.size := Nat.le_trans (unhide HK).size (unhide Bw5).size
              generalize hQ : w5.heap.size = q at *
              generalize w5.alloc (.cells #[.string yl, .string yk, .int .i64 yp] 66) = w6 at *
              have hqw' : w.heap.size < q := Nat.lt_of_lt_of_le (unhide H2).1.lt hqw
              clear hal hald mkS mkH hst hSb hSw5 Bw5 HD HB HK hQ
              have p0 : w6.cell? ⟨p, 0, none⟩ = some (.string xl) := cell_of_row _ _ 0 _ _ _ (unhide HBp)
              have p1 : w6.cell? ⟨p, 1, none⟩ = some (.string xk) := cell_of_row _ _ 1 _ _ _ (unhide HBp)
              have p2 : w6.cell? ⟨p, 2, none⟩ = some (.int .i64 xp) := cell_of_row _ _ 2 _ _ _ (unhide HBp)
              have q0 : w6.cell? ⟨q, 0, none⟩ = some (.string yl) := cell_of_row _ _ 0 _ _ _ (unhide HBq)
              have q1 : w6.cell? ⟨q, 1, none⟩ = some (.string yk) := cell_of_row _ _ 1 _ _ _ (unhide HBq)
              have q2 : w6.cell? ⟨q, 2, none⟩ = some (.int .i64 yp) := cell_of_row _ _ 2 _ _ _ (unhide HBq)
              have CF6 := hide (unhide CF w6 (unhide HK6))
              cases hb : badB o u (A.getD (k - 1) ByteArray.empty) (A.getD k ByteArray.empty)
              · have hR2 : Hid (R = badAt o u (k + 1) (A.getD k ByteArray.empty) (A.drop (k + 1))) := by have q := unhide HRk; rw [badAt_step o u A k (by omega), hb, if_neg (by simp)] at q; exact q
                rw [hb] at CF6
                clear hb HRk
                go_wp2_with fail
                refine (unhide CF6).mono ?_
                rintro e w7 ⟨rfl, b7⟩
                have HD7 := hide ((unhide HD6).step b7)
                have HBp7 := hide ((b7.block p (Array.getElem?_eq_some_iff.1 (unhide HBp)).1).trans (unhide HBp))
                have HBq7 := hide ((b7.block q (Array.getElem?_eq_some_iff.1 (unhide HBq)).1).trans (unhide HBq))
                have HK7 := hide ((unhide HK6).step b7)
                clear b7 CF6 HD6 HBp HBq HK6 p0 p1 p2 q0 q1 q2
                have p0 : w7.cell? ⟨p, 0, none⟩ = some (.string xl) := cell_of_row _ _ 0 _ _ _ (unhide HBp7)
                have p1 : w7.cell? ⟨p, 1, none⟩ = some (.string xk) := cell_of_row _ _ 1 _ _ _ (unhide HBp7)
                have p2 : w7.cell? ⟨p, 2, none⟩ = some (.int .i64 xp) := cell_of_row _ _ 2 _ _ _ (unhide HBp7)
                have q0 : w7.cell? ⟨q, 0, none⟩ = some (.string yl) := cell_of_row _ _ 0 _ _ _ (unhide HBq7)
                have q1 : w7.cell? ⟨q, 1, none⟩ = some (.string yk) := cell_of_row _ _ 1 _ _ _ (unhide HBq7)
                have q2 : w7.cell? ⟨q, 2, none⟩ = some (.int .i64 yp) := cell_of_row _ _ 2 _ _ _ (unhide HBq7)
                have fp0 : w7.frozen? ⟨p, 0, none⟩ = false := by simp [World.frozen?, unhide HBp7]
                have fp1 : w7.frozen? ⟨p, 1, none⟩ = false := by simp [World.frozen?, unhide HBp7]
                have fp2 : w7.frozen? ⟨p, 2, none⟩ = false := by simp [World.frozen?, unhide HBp7]
                have HD8 := hide (hd_set3 (unhide HD7) hpw' (.string yl) (.string yk) (.int .i64 yp))
                have HB8 : Hid ((((w7.setCell ⟨p, 0, none⟩ (.string yl)).setCell ⟨p, 1, none⟩ (.string yk)).setCell ⟨p, 2, none⟩ (.int .i64 yp)).heap[p]? = some (.cells #[.string yl, .string yk, .int .i64 yp] 66 (0, 0))) := set3_blk _ _ _ (unhide HBp7)
                have HK8 := hide (kp_set3 (unhide HK7) hp9 (.string yl) (.string yk) (.int .i64 yp))
                have hp8 : p < (((w7.setCell ⟨p, 0, none⟩ (.string yl)).setCell ⟨p, 1, none⟩ (.string yk)).setCell ⟨p, 2, none⟩ (.int .i64 yp)).heap.size := (Array.getElem?_eq_some_iff.1 (unhide HB8)).1
                clear HD7 HBp7 HBq7 HK7
                go_wp2_with fail
                go_roundw
                case rel => exact ⟨k + 1, ⟨yl, yk, yp⟩, by omega, by omega, by go_num, by rw [Nat.add_sub_cancel]; exact unhide hyx, HD8, HB8, HK8, hp8, by rw [Nat.add_sub_cancel]; exact hR2⟩
                case measure => simp [intOf]; omega
              · have hR2 : Hid (R = (k : Int)) := by have q := unhide HRk; rw [badAt_step o u A k (by omega), hb, if_pos rfl] at q; exact q
                rw [hb] at CF6
                clear hb HRk
                go_wp2_with fail
                refine (unhide CF6).mono ?_
                rintro e w7 ⟨rfl, b7⟩
                have HD7 := hide ((unhide HD6).step b7)
                clear b7 CF6 HD6 HBp HBq HK6 p0 p1 p2 q0 q1 q2
                go_wp2_with fail
                go_ret
                exact ⟨by rw [unhide hR2]; rfl, (unhide HD7).2⟩
            · have HD6 : Hid (Hd w o (((w5.setCell ⟨wr.heap.size, 0, none⟩ (.string yl)).setCell ⟨wr.heap.size, 1, none⟩ (.string yk)).setCell ⟨wr.heap.size, 2, none⟩ (.int .i64 yp))) := hd_set3 (unhide hSw5.2.2.2.2.2.2.2.2) (unhide HD).1.lt _ _ _
              have HBq : Hid ((((w5.setCell ⟨wr.heap.size, 0, none⟩ (.string yl)).setCell ⟨wr.heap.size, 1, none⟩ (.string yk)).setCell ⟨wr.heap.size, 2, none⟩ (.int .i64 yp)).heap[wr.heap.size]? = some (.cells #[.string yl, .string yk, .int .i64 yp] 66 (0, 0))) := set3_blk _ _ _ (unhide hblk)
              have HBp : Hid ((((w5.setCell ⟨wr.heap.size, 0, none⟩ (.string yl)).setCell ⟨wr.heap.size, 1, none⟩ (.string yk)).setCell ⟨wr.heap.size, 2, none⟩ (.int .i64 yp)).heap[p]? = some (.cells #[.string xl, .string xk, .int .i64 xp] 66 (0, 0))) := (set3_other _ _ _ (by omega)).trans (((unhide Bw5).block p (Nat.lt_of_lt_of_le hpr (size_ad wr _))).trans ((Below.heap_alloc _ _ _ hpr).trans (unhide HB)))
              have HK6 : Hid (Kp (fun _ => False) w2 (((w5.setCell ⟨wr.heap.size, 0, none⟩ (.string yl)).setCell ⟨wr.heap.size, 1, none⟩ (.string yk)).setCell ⟨wr.heap.size, 2, none⟩ (.int .i64 yp))) := kp_set3 (((unhide HK).alloc _).drew.step (unhide Bw5)) (unhide HK).size _ _ _
              have hqp : wr.heap.size ≠ p := by omega
              have hqw : w2.heap.size ≤ wr.heap.size := (unhide HK).size
              generalize hQ : wr.heap.size = q at *
              generalize (((w5.setCell ⟨q, 0, none⟩ (.string yl)).setCell ⟨q, 1, none⟩ (.string yk)).setCell ⟨q, 2, none⟩ (.int .i64 yp)) = w6 at *
              have hqw' : w.heap.size < q := Nat.lt_of_lt_of_le (unhide H2).1.lt hqw
              clear hal hald mkS mkH hst hSb hSw5 Bw5 HD HB HK hQ
              have p0 : w6.cell? ⟨p, 0, none⟩ = some (.string xl) := cell_of_row _ _ 0 _ _ _ (unhide HBp)
              have p1 : w6.cell? ⟨p, 1, none⟩ = some (.string xk) := cell_of_row _ _ 1 _ _ _ (unhide HBp)
              have p2 : w6.cell? ⟨p, 2, none⟩ = some (.int .i64 xp) := cell_of_row _ _ 2 _ _ _ (unhide HBp)
              have q0 : w6.cell? ⟨q, 0, none⟩ = some (.string yl) := cell_of_row _ _ 0 _ _ _ (unhide HBq)
              have q1 : w6.cell? ⟨q, 1, none⟩ = some (.string yk) := cell_of_row _ _ 1 _ _ _ (unhide HBq)
              have q2 : w6.cell? ⟨q, 2, none⟩ = some (.int .i64 yp) := cell_of_row _ _ 2 _ _ _ (unhide HBq)
              have CF6 := hide (unhide CF w6 (unhide HK6))
              cases hb : badB o u (A.getD (k - 1) ByteArray.empty) (A.getD k ByteArray.empty)
              · have hR2 : Hid (R = badAt o u (k + 1) (A.getD k ByteArray.empty) (A.drop (k + 1))) := by have q := unhide HRk; rw [badAt_step o u A k (by omega), hb, if_neg (by simp)] at q; exact q
                rw [hb] at CF6
                clear hb HRk
                go_wp2_with fail
                refine (unhide CF6).mono ?_
                rintro e w7 ⟨rfl, b7⟩
                have HD7 := hide ((unhide HD6).step b7)
                have HBp7 := hide ((b7.block p (Array.getElem?_eq_some_iff.1 (unhide HBp)).1).trans (unhide HBp))
                have HBq7 := hide ((b7.block q (Array.getElem?_eq_some_iff.1 (unhide HBq)).1).trans (unhide HBq))
                have HK7 := hide ((unhide HK6).step b7)
                clear b7 CF6 HD6 HBp HBq HK6 p0 p1 p2 q0 q1 q2
                have p0 : w7.cell? ⟨p, 0, none⟩ = some (.string xl) := cell_of_row _ _ 0 _ _ _ (unhide HBp7)
                have p1 : w7.cell? ⟨p, 1, none⟩ = some (.string xk) := cell_of_row _ _ 1 _ _ _ (unhide HBp7)
                have p2 : w7.cell? ⟨p, 2, none⟩ = some (.int .i64 xp) := cell_of_row _ _ 2 _ _ _ (unhide HBp7)
                have q0 : w7.cell? ⟨q, 0, none⟩ = some (.string yl) := cell_of_row _ _ 0 _ _ _ (unhide HBq7)
                have q1 : w7.cell? ⟨q, 1, none⟩ = some (.string yk) := cell_of_row _ _ 1 _ _ _ (unhide HBq7)
                have q2 : w7.cell? ⟨q, 2, none⟩ = some (.int .i64 yp) := cell_of_row _ _ 2 _ _ _ (unhide HBq7)
                have fp0 : w7.frozen? ⟨p, 0, none⟩ = false := by simp [World.frozen?, unhide HBp7]
                have fp1 : w7.frozen? ⟨p, 1, none⟩ = false := by simp [World.frozen?, unhide HBp7]
                have fp2 : w7.frozen? ⟨p, 2, none⟩ = false := by simp [World.frozen?, unhide HBp7]
                have HD8 := hide (hd_set3 (unhide HD7) hpw' (.string yl) (.string yk) (.int .i64 yp))
                have HB8 : Hid ((((w7.setCell ⟨p, 0, none⟩ (.string yl)).setCell ⟨p, 1, none⟩ (.string yk)).setCell ⟨p, 2, none⟩ (.int .i64 yp)).heap[p]? = some (.cells #[.string yl, .string yk, .int .i64 yp] 66 (0, 0))) := set3_blk _ _ _ (unhide HBp7)
                have HK8 := hide (kp_set3 (unhide HK7) hp9 (.string yl) (.string yk) (.int .i64 yp))
                have hp8 : p < (((w7.setCell ⟨p, 0, none⟩ (.string yl)).setCell ⟨p, 1, none⟩ (.string yk)).setCell ⟨p, 2, none⟩ (.int .i64 yp)).heap.size := (Array.getElem?_eq_some_iff.1 (unhide HB8)).1
                clear HD7 HBp7 HBq7 HK7
                go_wp2_with fail
                go_roundw
                case rel => exact ⟨k + 1, ⟨yl, yk, yp⟩, by omega, by omega, by go_num, by rw [Nat.add_sub_cancel]; exact unhide hyx, HD8, HB8, HK8, hp8, by rw [Nat.add_sub_cancel]; exact hR2⟩
                case measure => simp [intOf]; omega
              · have hR2 : Hid (R = (k : Int)) := by have q := unhide HRk; rw [badAt_step o u A k (by omega), hb, if_pos rfl] at q; exact q
                rw [hb] at CF6
                clear hb HRk
                go_wp2_with fail
                refine (unhide CF6).mono ?_
                rintro e w7 ⟨rfl, b7⟩
                have HD7 := hide ((unhide HD6).step b7)
                clear b7 CF6 HD6 HBp HBq HK6 p0 p1 p2 q0 q1 q2
                go_wp2_with fail
                go_ret
                exact ⟨by rw [unhide hR2]; rfl, (unhide HD7).2⟩
          · have hR2 : Hid (R = -1) := by have q := unhide HRk; rw [List.drop_eq_nil_of_le (by omega)] at q; exact q
            have hlt' : ¬ (k : Int) < (la : Int) := by omega
            go_wp2_with fail
            go_ret
            exact ⟨by rw [unhide hR2]; rfl, (unhide HD).2⟩
end Go.Proofs.YtmpppdbomdepoaaGreatDoor.So
