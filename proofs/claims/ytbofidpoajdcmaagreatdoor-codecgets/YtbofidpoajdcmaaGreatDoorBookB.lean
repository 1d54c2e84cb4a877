/- A Book that is given lists of bytes, one behind the other, and then asked whether they are apart. -/
import Derived.Test.YtbofidpoajdcmaaGreatDoorApartB
namespace Go.Proofs.YtbofidpoajdcmaaGreatDoor.Bk
open Go.RowKit

/-- a list that was given: itself, its mark, its length, its cells -/
structure Kept where
  v : Value
  m : Nat
  n : Nat
  xs : List Value
def kz : Kept := ⟨.slice none 0 0, 0, 0, []⟩
abbrev kv (L : List Kept) (i : Nat) : Value := (L.getD i kz).v
abbrev km (L : List Kept) (i : Nat) : Nat := (L.getD i kz).m
abbrev kn (L : List Kept) (i : Nat) : Nat := (L.getD i kz).n
abbrev kx (L : List Kept) (i : Nat) : List Value := (L.getD i kz).xs
abbrev kh (L : List Kept) : List Value := held (kv L) (fun _ => .slice none 0 0) (km L) L.length

theorem held_congr {V V' G G' : Nat → Value} {M M' : Nat → Nat} {k : Nat} (h : ∀ i, i < k → V i = V' i ∧ G i = G' i ∧ M i = M' i) : held V G M k = held V' G' M' k := by
  induction k with
  | zero => rfl
  | succ k ih =>
    obtain ⟨h1, h2, h3⟩ := h k (by omega)
    simp only [held, h1, h2, h3, ih (fun i hi => h i (by omega))]
theorem kh_snoc (L : List Kept) (x : Kept) : kh (L ++ [x]) = kh L ++ [x.v, .slice none 0 0, .int .i64 (x.m : Int)] := by
  have hg : ∀ i, i < L.length → (L ++ [x]).getD i kz = L.getD i kz := fun i hi => by simp [List.getD, List.getElem?_append_left hi]
  have hl : (L ++ [x]).getD L.length kz = x := by simp [List.getD]
  show held _ _ _ (L ++ [x]).length = _
  rw [List.length_append]
  show held _ _ _ L.length ++ _ = _
  rw [held_congr (V' := kv L) (G' := fun _ => .slice none 0 0) (M' := km L) (fun i hi => ⟨by rw [kv, hg i hi], rfl, by rw [km, hg i hi]⟩)]
  rw [kv, km, hl]

/-- w' is w but for the Book's own blocks, all of them at B or above -/
def Kp (B : Nat) (w w' : World) : Prop := ∃ S, Touch S w w' ∧ Tys (fun e => e = 49 ∨ e = 114) S w ∧ ∀ b, S b → B ≤ b
theorem Kp.own {B : Nat} {w w' : World} {base s n : Nat} {v : Value} {xs : List Value} {e : TypeId} (h : Kp B w w') (ho : w.ownsRow base e s v n xs) (h1 : ¬ (e = 49 ∨ e = 114)) : w'.ownsRow base e s v n xs := by
  obtain ⟨S, h1', h2, _⟩ := h
  exact h2.own h1' ho h1
theorem Kp.below {B : Nat} {w w' : World} (h : Kp B w w') (hB : B ≤ w.heap.size) : Below B w w' := by
  obtain ⟨S, h1, _, h3⟩ := h
  exact h1.toBelow (fun k hk hs => by have := h3 k hs; omega) hB

/-- a Book at P that was given the bytes LG -/
structure BB (B P n : Nat) (LG : List Kept) (w : World) : Prop where
  lo : B ≤ P
  hi : B ≤ w.heap.size
  bk : ∃ cur uG, Own w P cur ∧ cur[0]? = some (.int .i64 n) ∧ (∀ j, j < 13 → j ≠ 0 → j ≠ 1 → cur[j]? = some (.slice none 0 0)) ∧ cur[1]? = some uG ∧ w.ownsRow B 114 3 uG LG.length (kh LG)

theorem own_lo {w : World} {base : Nat} {e : TypeId} {s : Nat} {v : Value} {n : Nat} {xs : List Value} (h : w.ownsRow base e s v n xs) : ∀ k, v.ownBlock = some k → base ≤ k := by
  intro k hk
  rcases h.2 with ⟨rfl, _⟩ | ⟨g, cap, cur, rfl, hb, _⟩
  · simp [Value.ownBlock] at hk
  · simp [Value.ownBlock] at hk
    subst hk
    exact hb
theorem own_nil (w : World) (B : Nat) (e : TypeId) (s : Nat) : w.ownsRow B e s (.slice none 0 0) 0 [] := ⟨by simp, .inl ⟨rfl, rfl⟩⟩
theorem own_new (w : World) (P : Nat) (hP : P = w.heap.size) : Own (w.alloc (Obj.cells #[.int .i64 0, .slice none 0 0, .slice none 0 0, .slice none 0 0, .slice none 0 0, .slice none 0 0, .slice none 0 0, .slice none 0 0, .slice none 0 0, .slice none 0 0, .slice none 0 0, .slice none 0 0, .slice none 0 0] 49)) P
    [.int .i64 0, .slice none 0 0, .slice none 0 0, .slice none 0 0, .slice none 0 0, .slice none 0 0, .slice none 0 0, .slice none 0 0, .slice none 0 0, .slice none 0 0, .slice none 0 0, .slice none 0 0, .slice none 0 0] := by
  subst hP
  exact World.ownsRow_lit w _ 1 (Nat.zero_le _) (by unfold maxLen; omega) rfl
theorem BB.start {B P : Nat} {w : World} (hB : Own w P [.int .i64 0, .slice none 0 0, .slice none 0 0, .slice none 0 0, .slice none 0 0, .slice none 0 0, .slice none 0 0, .slice none 0 0, .slice none 0 0, .slice none 0 0, .slice none 0 0, .slice none 0 0, .slice none 0 0]) (hP : B ≤ P) (hw : B ≤ w.heap.size) : BB B P 0 [] w := by
  refine ⟨hP, hw, _, .slice none 0 0, hB, rfl, ?_, rfl, own_nil _ _ _ _⟩
  intro j hj h0 h7
  match j, hj with
  | 2, _ | 3, _ | 4, _ | 5, _ | 6, _ | 7, _ | 8, _ | 9, _ | 10, _ | 11, _ | 12, _ => rfl
  | 0, _ => exact absurd rfl h0
  | 1, _ => exact absurd rfl h7

theorem bytes_step (B P n : Nat) (LG : List Kept) (w : World) (h : BB B P n LG w) (v : Value) (ln : Nat) (xs : List Value) (e : TypeId) (s : Nat) (hv : w.ownsRow B e s v ln xs) (hn : n ≤ 1000) (hl : LG.length ≤ 1000) :
    Calls Tryz.prog 14 #[.pointer (some ⟨P, 0, none⟩), v] w fun e w' => e = .returned (.tuple #[]) ∧ BB B P (n + 1) (LG ++ [⟨v, n + 1, ln, xs⟩]) w' ∧ Kp B w w' := by
  obtain ⟨lo, hi, cur, uG, hO, h0, hj, h7, rG⟩ := h
  obtain ⟨a, cap, rfl⟩ := own_shape hv
  refine (Bytes_any B P n LG.length uG cur (kh LG) a ln cap w hO h0 h7 rG hi (by omega) (by omega)).mono ?_
  rintro e w' ⟨rfl, u', hO', rG', ht⟩
  have hty : Tys (fun e => e = 49 ∨ e = 114) (fun b => b = P ∨ uG.ownBlock = some b) w := by
    rintro b (rfl | hb)
    · obtain ⟨_, c, hc⟩ := own_block hO b rfl
      exact ⟨c, _, .inl rfl, hc⟩
    · obtain ⟨_, c, hc⟩ := own_block rG b hb
      exact ⟨c, _, .inr rfl, hc⟩
  have hlen : cur.length = 13 := hO.1
  refine ⟨rfl, ⟨lo, Nat.le_trans hi ht.size, _, u', hO', ?_, ?_, ?_, ?_⟩, _, ht, hty, ?_⟩
  · rw [List.getElem?_set_ne (by decide), List.getElem?_set_self (by omega)]
  · intro j h1 h2 h4
    rw [List.getElem?_set_ne (by omega), List.getElem?_set_ne (by omega)]
    exact hj j h1 h2 h4
  · rw [List.getElem?_set_self (by simp; omega)]
  · rw [kh_snoc, List.length_append]
    exact rG'
  · rintro b (rfl | hb)
    · exact lo
    · exact own_lo rG b hb

/-- the lists that were given are rows at B or above, no two of them in one block, and not too long -/
structure Given (B : Nat) (e : TypeId) (s : Nat) (L : List Kept) (w : World) : Prop where
  own : ∀ x ∈ L, w.ownsRow B e s x.v x.n x.xs ∧ x.m < 100 ∧ x.n ≤ 140737488351232
  ap : L.Pairwise (fun x y => ∀ b, x.v.ownBlock = some b → y.v.ownBlock = some b → False)
theorem kz_mem (L : List Kept) (i : Nat) (h : i < L.length) : L.getD i kz ∈ L := by
  rw [List.getD, List.getElem?_eq_getElem h]
  exact List.getElem_mem h
theorem Given.rows {B : Nat} {e : TypeId} {s : Nat} {L : List Kept} {w : World} (h : Given B e s L w) : Rows1 w e s L.length (kv L) (kn L) (kx L) := by
  refine ⟨fun i hi => own_base (h.own _ (kz_mem L i hi)).1 (Nat.zero_le _), fun i j hi hj hne b h1 h2 => ?_⟩
  have hp := List.pairwise_iff_getElem.1 h.ap
  simp only [kv, List.getD, List.getElem?_eq_getElem hi, List.getElem?_eq_getElem hj, Option.getD_some] at h1 h2
  rcases Nat.lt_or_gt_of_ne hne with hlt | hgt
  · exact hp i j hi hj hlt b h1 h2
  · exact hp j i hj hi hgt b h2 h1

theorem apart_step (B P n : Nat) (LG : List Kept) (w : World) (h : BB B P n LG w) (gG : Given B 5 1 LG w) (hG : LG.length ≤ 1000) :
    Calls Tryz.prog 15 #[.pointer (some ⟨P, 0, none⟩)] w fun e w' => e = .returned (.bool true) ∧ Below B w w' := by
  obtain ⟨lo, hi, cur, uG, hO, h0, hj, h7, rG⟩ := h
  refine (apart_ok P cur uG LG.length (kv LG) (km LG) (kn LG) (kx LG) w hO
    (hj 2 (by decide) (by decide) (by decide)) (hj 3 (by decide) (by decide) (by decide)) (hj 4 (by decide) (by decide) (by decide)) (hj 5 (by decide) (by decide) (by decide)) (hj 6 (by decide) (by decide) (by decide)) (hj 7 (by decide) (by decide) (by decide)) (hj 8 (by decide) (by decide) (by decide)) (hj 9 (by decide) (by decide) (by decide)) (hj 10 (by decide) (by decide) (by decide)) (hj 11 (by decide) (by decide) (by decide)) (hj 12 (by decide) (by decide) (by decide))
    h7 ⟨by show LG.length ≤ _; omega, fun i hi => (gG.own _ (kz_mem LG i hi)).2.1, fun i hi => (gG.own _ (kz_mem LG i hi)).2.2⟩ ⟨own_base rG (Nat.zero_le _), gG.rows⟩).mono ?_
  rintro e w' ⟨rfl, ht⟩
  refine ⟨rfl, ht.toBelow (fun b hb hs => ?_) hi⟩
  rcases hs with ⟨i, hi, e⟩ | e
  · have := own_lo (gG.own _ (kz_mem LG i hi)).1 b e; omega
  · have := own_lo rG b e; omega
end Go.Proofs.YtbofidpoajdcmaaGreatDoor.Bk
