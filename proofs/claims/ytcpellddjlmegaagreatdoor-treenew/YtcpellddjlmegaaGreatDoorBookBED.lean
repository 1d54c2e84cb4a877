/- A Book that is given bytes and names of no length, and nodes, one behind the other, and then asked whether they are apart. -/
import Derived.Test.YtcpellddjlmegaaGreatDoorApartBED
namespace Go.Proofs.YtcpellddjlmegaaGreatDoor.Bk
open Go.RowKit

/-- a list that was given: itself, its mark, its length, its cells -/
structure Kept where
  v : Value
  m : Nat
  n : Nat
  xs : List Value
def kz : Kept := ⟨.slice none 0 0, 0, 0, []⟩
abbrev kv (L : List Kept) (i : Nat) : Value := (L.getD i kz).v
abbrev km (L : List Kept) (i : Nat) : Nat := (L.getD i kz).m
abbrev kn (L : List Kept) (i : Nat) : Nat := (L.getD i kz).n
abbrev kx (L : List Kept) (i : Nat) : List Value := (L.getD i kz).xs
abbrev kh (L : List Kept) : List Value := held (kv L) (fun _ => .slice none 0 0) (km L) L.length

theorem held_congr {V V' G G' : Nat → Value} {M M' : Nat → Nat} {k : Nat} (h : ∀ i, i < k → V i = V' i ∧ G i = G' i ∧ M i = M' i) : held V G M k = held V' G' M' k := by
  induction k with
  | zero => rfl
  | succ k ih =>
    obtain ⟨h1, h2, h3⟩ := h k (by omega)
    simp only [held, h1, h2, h3, ih (fun i hi => h i (by omega))]
theorem kh_snoc (L : List Kept) (x : Kept) : kh (L ++ [x]) = kh L ++ [x.v, .slice none 0 0, .int .i64 (x.m : Int)] := by
  have hg : ∀ i, i < L.length → (L ++ [x]).getD i kz = L.getD i kz := fun i hi => by simp [List.getD, List.getElem?_append_left hi]
  have hl : (L ++ [x]).getD L.length kz = x := by simp [List.getD]
  show held _ _ _ (L ++ [x]).length = _
  rw [List.length_append]
  show held _ _ _ L.length ++ _ = _
  rw [held_congr (V' := kv L) (G' := fun _ => .slice none 0 0) (M' := km L) (fun i hi => ⟨by rw [kv, hg i hi], rfl, by rw [km, hg i hi]⟩)]
  rw [kv, km, hl]

/-- the types of the Book's own blocks -/
def Bt (e : TypeId) : Prop := e = 35 ∨ e = 77 ∨ e = 113 ∨ e = 116
/-- w' is w but for the Book's own blocks, all of them at B or above -/
def Kp (B : Nat) (w w' : World) : Prop := ∃ S, Touch S w w' ∧ Tys Bt S w ∧ ∀ b, S b → B ≤ b
theorem Kp.own {B : Nat} {w w' : World} {base s n : Nat} {v : Value} {xs : List Value} {e : TypeId} (h : Kp B w w') (ho : w.ownsRow base e s v n xs) (h1 : ¬ Bt e) : w'.ownsRow base e s v n xs := by
  obtain ⟨S, h1', h2, _⟩ := h
  exact h2.own h1' ho h1
theorem Kp.trans {B : Nat} {a b c : World} (h : Kp B a b) (k : Kp B b c) : Kp B a c := by
  obtain ⟨S, h1, h2, h3⟩ := h
  obtain ⟨S', k1, k2, k3⟩ := k
  refine ⟨fun j => j < a.heap.size ∧ (S j ∨ S' j), ⟨k1.os.trans h1.os, k1.tape.trans h1.tape, k1.output.trans h1.output, Nat.le_trans h1.size k1.size, fun j hj hn => ?_⟩, ?_, fun b hb => hb.2.elim (h3 b) (k3 b)⟩
  · exact (k1.block j (Nat.lt_of_lt_of_le hj h1.size) (fun e => hn ⟨hj, .inr e⟩)).trans (h1.block j hj (fun e => hn ⟨hj, .inl e⟩))
  · rintro j ⟨hj, hs⟩
    by_cases e : S j
    · exact h2 j e
    · rcases hs with hs | hs
      · exact absurd hs e
      · obtain ⟨c', e', hE, hc⟩ := k2 j hs
        exact ⟨c', e', hE, (h1.block j hj e).symm.trans hc⟩
theorem Kp.of_below {B : Nat} {w w' : World} (h : Below w.heap.size w w') : Kp B w w' :=
  ⟨fun _ => False, ⟨h.os, h.tape, h.output, h.size, fun k hk _ => h.block k hk⟩, fun _ h => h.elim, fun _ h => h.elim⟩
theorem Kp.below {B : Nat} {w w' : World} (h : Kp B w w') (hB : B ≤ w.heap.size) : Below B w w' := by
  obtain ⟨S, h1, _, h3⟩ := h
  exact h1.toBelow (fun k hk hs => by have := h3 k hs; omega) hB
theorem Kp.size {B : Nat} {w w' : World} (h : Kp B w w') : w.heap.size ≤ w'.heap.size := by
  obtain ⟨S, h1, _⟩ := h
  exact h1.size
theorem Kp.block {B : Nat} {w w' : World} {k : Nat} {c : Array Value} {e : TypeId} (h : Kp B w w') (hk : w.heap[k]? = some (.cells c e)) (he : ¬ Bt e) : w'.heap[k]? = some (.cells c e) := by
  obtain ⟨S, h1, h2, _⟩ := h
  refine (h1.block k (Array.getElem?_eq_some_iff.1 hk).1 (fun hs => ?_)).trans hk
  obtain ⟨c', e', hE, hc⟩ := h2 k hs
  rw [hk] at hc
  simp at hc
  exact he (hc.2 ▸ hE)

theorem own_lo {w : World} {base : Nat} {e : TypeId} {s : Nat} {v : Value} {n : Nat} {xs : List Value} (h : w.ownsRow base e s v n xs) : ∀ k, v.ownBlock = some k → base ≤ k := by
  intro k hk
  rcases h.2 with ⟨rfl, _⟩ | ⟨g, cap, cur, rfl, hb, _⟩
  · simp [Value.ownBlock] at hk
  · simp [Value.ownBlock] at hk
    subst hk
    exact hb
theorem own_nil (w : World) (B : Nat) (e : TypeId) (s : Nat) : w.ownsRow B e s (.slice none 0 0) 0 [] := ⟨by simp, .inl ⟨rfl, rfl⟩⟩
/-- lists of no length, at nothing -/
def Nils (L : List Kept) : Prop := ∀ x ∈ L, x.v = .slice none 0 0 ∧ x.n = 0 ∧ x.xs = [] ∧ x.m < 100
theorem Nils.snoc {L : List Kept} (h : Nils L) (m : Nat) (hm : m < 100) : Nils (L ++ [⟨.slice none 0 0, m, 0, []⟩]) := by
  intro x hx
  rcases List.mem_append.1 hx with hx | hx
  · exact h x hx
  · simp at hx
    subst hx
    exact ⟨rfl, rfl, rfl, hm⟩

/-- a Book at P that was given the nodes LN, and bytes and names of no length -/
def BN (B P n : Nat) (LN : List Kept) (w : World) : Prop :=
  B ≤ P ∧ B ≤ w.heap.size ∧ ∃ cur uB uE uN LB LE, Own w P cur ∧ cur[0]? = some (.int .i64 n) ∧ (∀ j, j < 13 → j ≠ 0 → j ≠ 1 → j ≠ 9 → j ≠ 10 → cur[j]? = some (.slice none 0 0)) ∧ cur[1]? = some uB ∧ cur[9]? = some uE ∧ cur[10]? = some uN ∧
    w.ownsRow B 77 3 uB LB.length (kh LB) ∧ w.ownsRow B 113 3 uE LE.length (kh LE) ∧ w.ownsRow B 116 3 uN LN.length (kh LN) ∧ Nils LB ∧ Nils LE ∧ LB.length ≤ n ∧ LE.length ≤ n ∧ LN.length ≤ n
theorem own_new (w : World) (P : Nat) (hP : P = w.heap.size) : Own (w.alloc (Obj.cells #[.int .i64 0, .slice none 0 0, .slice none 0 0, .slice none 0 0, .slice none 0 0, .slice none 0 0, .slice none 0 0, .slice none 0 0, .slice none 0 0, .slice none 0 0, .slice none 0 0, .slice none 0 0, .slice none 0 0] 35)) P
    [.int .i64 0, .slice none 0 0, .slice none 0 0, .slice none 0 0, .slice none 0 0, .slice none 0 0, .slice none 0 0, .slice none 0 0, .slice none 0 0, .slice none 0 0, .slice none 0 0, .slice none 0 0, .slice none 0 0] := by
  subst hP
  exact World.ownsRow_lit w _ 1 (Nat.zero_le _) (by unfold maxLen; omega) rfl
theorem BN.start {B P : Nat} {w : World} (lo : B ≤ P) (hi : B ≤ w.heap.size) (hB : Own w P [.int .i64 0, .slice none 0 0, .slice none 0 0, .slice none 0 0, .slice none 0 0, .slice none 0 0, .slice none 0 0, .slice none 0 0, .slice none 0 0, .slice none 0 0, .slice none 0 0, .slice none 0 0, .slice none 0 0]) : BN B P 0 [] w := by
  refine ⟨lo, hi, _, .slice none 0 0, .slice none 0 0, .slice none 0 0, [], [], hB, rfl, ?_, rfl, rfl, rfl, own_nil _ _ _ _, own_nil _ _ _ _, own_nil _ _ _ _, fun _ h => absurd h (by simp), fun _ h => absurd h (by simp), Nat.le_refl _, Nat.le_refl _, Nat.le_refl _⟩
  intro j hj h0 h1 h9 h10
  match j, hj with
  | 2, _ | 3, _ | 4, _ | 5, _ | 6, _ | 7, _ | 8, _ | 11, _ | 12, _ => rfl
  | 0, _ => exact absurd rfl h0
  | 1, _ => exact absurd rfl h1
  | 9, _ => exact absurd rfl h9
  | 10, _ => exact absurd rfl h10
theorem BN.below {B P n : Nat} {LN : List Kept} {w w' : World} (h : BN B P n LN w) (hb : Below w.heap.size w w') : BN B P n LN w' := by
  obtain ⟨lo, hi, cur, uB, uE, uN, LB, LE, hO, h0, hj, h1, h9, h10, rB, rE, rN, rest⟩ := h
  exact ⟨lo, Nat.le_trans hi hb.size, cur, uB, uE, uN, LB, LE, own_below hO hb, h0, hj, h1, h9, h10, own_below rB hb, own_below rE hb, own_below rN hb, rest⟩

theorem tys_two {w : World} {B P : Nat} {cur : List Value} {u : Value} {e : TypeId} {k : Nat} {xs : List Value} (hO : Own w P cur) (r : w.ownsRow B e 3 u k xs) : Tys (fun e' => e' = 35 ∨ e' = e) (fun b => b = P ∨ u.ownBlock = some b) w := by
  rintro b (rfl | hb)
  · obtain ⟨_, c, hc⟩ := own_block hO b rfl
    exact ⟨c, _, .inl rfl, hc⟩
  · obtain ⟨_, c, hc⟩ := own_block r b hb
    exact ⟨c, _, .inr rfl, hc⟩
theorem Tys.wide {E E' : TypeId → Prop} {S : Nat → Prop} {w : World} (h : Tys E S w) (he : ∀ e, E e → E' e) : Tys E' S w := fun b hb => by
  obtain ⟨c, e, h1, h2⟩ := h b hb
  exact ⟨c, e, he e h1, h2⟩

theorem bytesN (B P n : Nat) (LN : List Kept) (w : World) (h : BN B P n LN w) (hn : n < 99) :
    Calls Tryz.prog 103 #[.pointer (some ⟨P, 0, none⟩), .slice none 0 0] w fun e w' => e = .returned (.tuple #[]) ∧ BN B P (n + 1) LN w' ∧ Kp B w w' := by
  obtain ⟨lo, hi, cur, uB, uE, uN, LB, LE, hO, h0, hj, h1, h9, h10, rB, rE, rN, z1, z2, l1, l2, l3⟩ := h
  refine (Bytes_any B P n LB.length uB cur (kh LB) none 0 0 w hO h0 h1 rB hi (by omega) (by omega)).mono ?_
  rintro e w' ⟨rfl, u', hO', r', ht⟩
  have hty := tys_two hO rB
  have hlen : cur.length = 13 := hO.1
  refine ⟨rfl, ⟨lo, Nat.le_trans hi ht.size, _, u', uE, uN, LB ++ [⟨.slice none 0 0, n + 1, 0, []⟩], LE, hO', ?_, ?_, ?_, ?_, ?_, ?_, hty.own ht rE (by decide), hty.own ht rN (by decide), z1.snoc _ (by omega), z2, by simp; omega, by omega, by omega⟩, _, ht, hty.wide ?_, ?_⟩
  · rw [List.getElem?_set_ne (by decide), List.getElem?_set_self (by omega)]
  · intro j g1 g2 g3 g4 g5
    rw [List.getElem?_set_ne (by omega), List.getElem?_set_ne (by omega)]
    exact hj j g1 g2 g3 g4 g5
  · rw [List.getElem?_set_self (by simp; omega)]
  · rw [List.getElem?_set_ne (by omega), List.getElem?_set_ne (by omega)]; exact h9
  · rw [List.getElem?_set_ne (by omega), List.getElem?_set_ne (by omega)]; exact h10
  · rw [kh_snoc, List.length_append]
    exact r'
  · rintro e (rfl | rfl)
    · exact .inl rfl
    · exact .inr (.inl rfl)
  · rintro b (rfl | hb)
    · exact lo
    · exact own_lo rB b hb
theorem entriesN (B P n : Nat) (LN : List Kept) (w : World) (h : BN B P n LN w) (hn : n < 99) :
    Calls Tryz.prog 104 #[.pointer (some ⟨P, 0, none⟩), .slice none 0 0] w fun e w' => e = .returned (.tuple #[]) ∧ BN B P (n + 1) LN w' ∧ Kp B w w' := by
  obtain ⟨lo, hi, cur, uB, uE, uN, LB, LE, hO, h0, hj, h1, h9, h10, rB, rE, rN, z1, z2, l1, l2, l3⟩ := h
  refine (Entries_any B P n LE.length uE cur (kh LE) none 0 0 w hO h0 h9 rE hi (by omega) (by omega)).mono ?_
  rintro e w' ⟨rfl, u', hO', r', ht⟩
  have hty := tys_two hO rE
  have hlen : cur.length = 13 := hO.1
  refine ⟨rfl, ⟨lo, Nat.le_trans hi ht.size, _, uB, u', uN, LB, LE ++ [⟨.slice none 0 0, n + 1, 0, []⟩], hO', ?_, ?_, ?_, ?_, ?_, hty.own ht rB (by decide), ?_, hty.own ht rN (by decide), z1, z2.snoc _ (by omega), by omega, by simp; omega, by omega⟩, _, ht, hty.wide ?_, ?_⟩
  · rw [List.getElem?_set_ne (by decide), List.getElem?_set_self (by omega)]
  · intro j g1 g2 g3 g4 g5
    rw [List.getElem?_set_ne (by omega), List.getElem?_set_ne (by omega)]
    exact hj j g1 g2 g3 g4 g5
  · rw [List.getElem?_set_ne (by omega), List.getElem?_set_ne (by omega)]; exact h1
  · rw [List.getElem?_set_self (by simp; omega)]
  · rw [List.getElem?_set_ne (by omega), List.getElem?_set_ne (by omega)]; exact h10
  · rw [kh_snoc, List.length_append]
    exact r'
  · rintro e (rfl | rfl)
    · exact .inl rfl
    · exact .inr (.inr (.inl rfl))
  · rintro b (rfl | hb)
    · exact lo
    · exact own_lo rE b hb
theorem keepN (B P n : Nat) (LN : List Kept) (w : World) (h : BN B P n LN w) (hn : n < 99) (la : Option Addr) (ll lc : Nat) (xs : List Value) :
    Calls Tryz.prog 64 #[.pointer (some ⟨P, 0, none⟩), .slice la ll lc] w fun e w' => e = .returned (.tuple #[]) ∧ BN B P (n + 1) (LN ++ [⟨.slice la ll lc, n + 1, ll, xs⟩]) w' ∧ Kp B w w' := by
  obtain ⟨lo, hi, cur, uB, uE, uN, LB, LE, hO, h0, hj, h1, h9, h10, rB, rE, rN, z1, z2, l1, l2, l3⟩ := h
  refine (keepNode_any B P n LN.length uN cur (kh LN) la ll lc w hO h0 h10 rN hi (by omega) (by omega)).mono ?_
  rintro e w' ⟨rfl, u', hO', r', ht⟩
  have hty := tys_two hO rN
  have hlen : cur.length = 13 := hO.1
  refine ⟨rfl, ⟨lo, Nat.le_trans hi ht.size, _, uB, uE, u', LB, LE, hO', ?_, ?_, ?_, ?_, ?_, hty.own ht rB (by decide), hty.own ht rE (by decide), ?_, z1, z2, by omega, by omega, by simp; omega⟩, _, ht, hty.wide ?_, ?_⟩
  · rw [List.getElem?_set_ne (by decide), List.getElem?_set_self (by omega)]
  · intro j g1 g2 g3 g4 g5
    rw [List.getElem?_set_ne (by omega), List.getElem?_set_ne (by omega)]
    exact hj j g1 g2 g3 g4 g5
  · rw [List.getElem?_set_ne (by omega), List.getElem?_set_ne (by omega)]; exact h1
  · rw [List.getElem?_set_ne (by omega), List.getElem?_set_ne (by omega)]; exact h9
  · rw [List.getElem?_set_self (by simp; omega)]
  · rw [kh_snoc, List.length_append]
    exact r'
  · rintro e (rfl | rfl)
    · exact .inl rfl
    · exact .inr (.inr (.inr rfl))
  · rintro b (rfl | hb)
    · exact lo
    · exact own_lo rN b hb

/-- the lists that were given are rows, no two of them in one block, and not too long -/
structure Given (B : Nat) (e : TypeId) (s : Nat) (L : List Kept) (w : World) : Prop where
  own : ∀ x ∈ L, w.ownsRow B e s x.v x.n x.xs ∧ x.m < 100 ∧ x.n ≤ 4194304
  ap : L.Pairwise (fun x y => ∀ b, x.v.ownBlock = some b → y.v.ownBlock = some b → False)
theorem Given.of_nils {B : Nat} {e : TypeId} {s : Nat} {L : List Kept} {w : World} (h : Nils L) : Given B e s L w := by
  refine ⟨fun x hx => ?_, ?_⟩
  · obtain ⟨a, b, c, d⟩ := h x hx
    rw [a, b, c]
    exact ⟨own_nil _ _ _ _, d, by omega⟩
  · refine List.Pairwise.imp_of_mem (R := fun _ _ => True) (fun {x y} hx hy _ b h1 => ?_) (List.pairwise_of_forall (fun _ _ => trivial))
    rw [(h x hx).1] at h1
    simp [Value.ownBlock] at h1
theorem kz_mem (L : List Kept) (i : Nat) (h : i < L.length) : L.getD i kz ∈ L := by
  rw [List.getD, List.getElem?_eq_getElem h]
  exact List.getElem_mem h
theorem Given.rows {B : Nat} {e : TypeId} {s : Nat} {L : List Kept} {w : World} (h : Given B e s L w) : Rows1 w e s L.length (kv L) (kn L) (kx L) := by
  refine ⟨fun i hi => own_base (h.own _ (kz_mem L i hi)).1 (Nat.zero_le _), fun i j hi hj hne b h1 h2 => ?_⟩
  have hp := List.pairwise_iff_getElem.1 h.ap
  simp only [kv, List.getD, List.getElem?_eq_getElem hi, List.getElem?_eq_getElem hj, Option.getD_some] at h1 h2
  rcases Nat.lt_or_gt_of_ne hne with hlt | hgt
  · exact hp i j hi hj hlt b h1 h2
  · exact hp j i hj hi hgt b h2 h1
theorem Given.kp {B : Nat} {e : TypeId} {s : Nat} {L : List Kept} {w w' : World} (h : Given B e s L w) (k : Kp B w w') (he : ¬ Bt e) : Given B e s L w' :=
  ⟨fun x hx => ⟨k.own (h.own x hx).1 he, (h.own x hx).2⟩, h.ap⟩
/-- one list more, in a block that is none of theirs -/
theorem Given.snoc {B : Nat} {e : TypeId} {s : Nat} {L : List Kept} {w : World} {C : Nat} (h : Given B e s L w) (hB : ∀ x ∈ L, ∀ b, x.v.ownBlock = some b → b < C) (x : Kept) (ho : w.ownsRow B e s x.v x.n x.xs) (hm : x.m < 100) (hn : x.n ≤ 4194304) (hx : ∀ b, x.v.ownBlock = some b → C ≤ b) : Given B e s (L ++ [x]) w := by
  refine ⟨fun y hy => ?_, ?_⟩
  · rcases List.mem_append.1 hy with hy | hy
    · exact h.own y hy
    · simp at hy
      subst hy
      exact ⟨ho, hm, hn⟩
  · rw [List.pairwise_append]
    refine ⟨h.ap, List.pairwise_singleton _ _, fun y hy z hz b h1 h2 => ?_⟩
    simp at hz
    subst hz
    have := hB y hy b h1
    have := hx b h2
    omega

theorem apartN (B P n : Nat) (LN : List Kept) (w : World) (h : BN B P n LN w) (g : Given B 51 10 LN w) (hn : n < 100) :
    Calls Tryz.prog 9 #[.pointer (some ⟨P, 0, none⟩)] w fun e w' => e = .returned (.bool true) ∧ Below B w w' := by
  obtain ⟨lo, hi, cur, uB, uE, uN, LB, LE, hO, h0, hj, h1, h9, h10, rB, rE, rN, z1, z2, l1, l2, l3⟩ := h
  have gB : Given B 5 1 LB w := Given.of_nils z1
  have gE : Given B 72 2 LE w := Given.of_nils z2
  refine (apart_ok P cur uB LB.length (kv LB) (km LB) (kn LB) (kx LB) uE LE.length (kv LE) (km LE) (kn LE) (kx LE) uN LN.length (kv LN) (km LN) (kn LN) (kx LN) w hO
    (hj 2 (by decide) (by decide) (by decide) (by decide) (by decide)) (hj 3 (by decide) (by decide) (by decide) (by decide) (by decide)) (hj 4 (by decide) (by decide) (by decide) (by decide) (by decide)) (hj 5 (by decide) (by decide) (by decide) (by decide) (by decide)) (hj 6 (by decide) (by decide) (by decide) (by decide) (by decide)) (hj 7 (by decide) (by decide) (by decide) (by decide) (by decide)) (hj 8 (by decide) (by decide) (by decide) (by decide) (by decide)) (hj 11 (by decide) (by decide) (by decide) (by decide) (by decide)) (hj 12 (by decide) (by decide) (by decide) (by decide) (by decide))
    h1 ⟨by show LB.length ≤ _; omega, fun i hi => (gB.own _ (kz_mem LB i hi)).2.1, fun i hi => (gB.own _ (kz_mem LB i hi)).2.2⟩ ⟨own_base rB (Nat.zero_le _), gB.rows⟩
    h9 ⟨by show LE.length ≤ _; omega, fun i hi => (gE.own _ (kz_mem LE i hi)).2.1, fun i hi => (gE.own _ (kz_mem LE i hi)).2.2⟩ ⟨own_base rE (Nat.zero_le _), gE.rows⟩
    h10 ⟨by show LN.length ≤ _; omega, fun i hi => (g.own _ (kz_mem LN i hi)).2.1, fun i hi => (g.own _ (kz_mem LN i hi)).2.2⟩ ⟨own_base rN (Nat.zero_le _), g.rows⟩).mono ?_
  rintro e w' ⟨rfl, ht⟩
  refine ⟨rfl, ht.toBelow (fun b hb hs => ?_) hi⟩
  rcases hs with (⟨i, hi, e⟩ | e) | (⟨i, hi, e⟩ | e) | (⟨i, hi, e⟩ | e)
  · have := own_lo (gB.own _ (kz_mem LB i hi)).1 b e; omega
  · have := own_lo rB b e; omega
  · have := own_lo (gE.own _ (kz_mem LE i hi)).1 b e; omega
  · have := own_lo rE b e; omega
  · have := own_lo (g.own _ (kz_mem LN i hi)).1 b e; omega
  · have := own_lo rN b e; omega
end Go.Proofs.YtcpellddjlmegaaGreatDoor.Bk
