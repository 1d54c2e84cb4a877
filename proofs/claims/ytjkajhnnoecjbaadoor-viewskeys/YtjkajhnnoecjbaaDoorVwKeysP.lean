/- Keys joined with themselves, in plain words. -/
import Derived.Test.YtjkajhnnoecjbaaDoorVwJoin
set_option linter.unusedVariables false
namespace Go.Proofs.YtjkajhnnoecjbaaDoor.Vw
open Go.RowKit Cu

/-- the n-th key -/
def keyN (n : Nat) : Bs := [UInt8.ofNat (97 + n / 16), UInt8.ofNat (97 + n % 16)]
theorem keyN_inj (i j : Nat) (hi : i < 256) (hj : j < 256) (h : keyN i = keyN j) : i = j := by
  unfold keyN at h
  have h1 := congrArg UInt8.toNat (List.cons.inj h).1
  have h2 := congrArg UInt8.toNat (List.cons.inj (List.cons.inj h).2).1
  rw [UInt8.toNat_ofNat', UInt8.toNat_ofNat'] at h1 h2
  omega
theorem keyN_le (i j : Nat) (hij : i ≤ j) (hj : j < 256) : ¬ keyN j < keyN i := by
  unfold keyN
  intro h
  rw [List.cons_lt_cons_iff, List.cons_lt_cons_iff] at h
  have e1 : ∀ n : Nat, n < 256 → (UInt8.ofNat (97 + n / 16)).toNat = 97 + n / 16 := fun n hn => by rw [UInt8.toNat_ofNat']; omega
  have e2 : ∀ n : Nat, n < 256 → (UInt8.ofNat (97 + n % 16)).toNat = 97 + n % 16 := fun n hn => by rw [UInt8.toNat_ofNat']; omega
  rcases h with h | ⟨h0, h | ⟨_, h⟩⟩
  · rw [UInt8.lt_iff_toNat_lt, e1 _ hj, e1 _ (by omega)] at h; omega
  · have h1 := congrArg UInt8.toNat h0
    rw [e1 _ hj, e1 _ (by omega)] at h1
    rw [UInt8.lt_iff_toNat_lt, e2 _ hj, e2 _ (by omega)] at h; omega
  · exact List.lt_irrefl _ h
/-- so many of each of the first keys -/
def keysTo (m : Nat → Nat) (k : Nat) : List Bs := (List.range k).flatMap fun n => List.replicate (m n) (keyN n)
theorem keysTo_succ (m : Nat → Nat) (k : Nat) : keysTo m (k + 1) = keysTo m k ++ List.replicate (m k) (keyN k) := by
  unfold keysTo
  rw [List.range_succ, List.flatMap_append, List.flatMap_cons, List.flatMap_nil, List.append_nil]
theorem sep_key (n : Nat) (hn : n < 256) : ∀ c ∈ keyN n, Ln.isSep 58 c = false := by
  intro c hc
  unfold keyN at hc
  have e1 : (UInt8.ofNat (97 + n / 16)).toNat = 97 + n / 16 := by rw [UInt8.toNat_ofNat']; omega
  have e2 : (UInt8.ofNat (97 + n % 16)).toNat = 97 + n % 16 := by rw [UInt8.toNat_ofNat']; omega
  unfold Ln.isSep
  rw [decide_eq_false_iff_not]
  simp only [List.mem_cons, List.not_mem_nil, or_false] at hc
  rcases hc with rfl | rfl
  · omega
  · omega
theorem row_key (n : Nat) (hn : n < 256) : rowP 1 58 (Ln.fieldsL 58 (keyN n)) = (keyN n, []) := by
  have h : Ln.fieldsL 58 (keyN n) = [keyN n] := by
    unfold Ln.fieldsL
    rw [if_neg (by decide), Ln.parts_end (keyN n) (sep_key n hn) (by unfold keyN; simp)]; rfl
  rw [h]; rfl
theorem rows_keys (m : Nat → Nat) : rowsP 1 58 58 (keysTo m 256) = (keysTo m 256).map fun x => (x, []) := by
  unfold rowsP
  refine List.map_congr_left fun x hx => ?_
  unfold keysTo at hx
  obtain ⟨n, hn, hx⟩ := List.mem_flatMap.1 hx
  rw [(List.mem_replicate.1 hx).2]
  exact row_key n (List.mem_range.1 hn)
theorem sortedP_of : ∀ l : List Rw, l.Pairwise (fun x y => ¬ y.1 < x.1) → sortedP l = true
  | [], _ => rfl
  | [_], _ => rfl
  | x :: y :: r, h => by
    have h1 := List.pairwise_cons.1 h
    rw [sortedP, sortedP_of (y :: r) h1.2, Bool.and_true, decide_eq_true_eq]
    exact h1.1 y (by simp)
theorem sorted_keys (m : Nat → Nat) : sortedP ((keysTo m 256).map fun x => (x, [])) = true := by
  refine sortedP_of _ ?_
  rw [List.pairwise_map]
  unfold keysTo
  rw [List.pairwise_flatMap]
  refine ⟨fun n hn => ?_, ?_⟩
  · rw [List.pairwise_replicate]
    exact .inr (List.lt_irrefl _)
  · have h := List.pairwise_lt_range (n := 256)
    refine (List.Pairwise.and_mem.1 h).imp ?_
    rintro i j ⟨hi, hj, hij⟩ x hx y hy
    rw [(List.mem_replicate.1 hx).2, (List.mem_replicate.1 hy).2]
    exact keyN_le i j (by omega) (List.mem_range.1 hj)
/-- those of a key -/
theorem filter_keys (m : Nat → Nat) (n : Nat) (hn : n < 256) : ∀ k, k ≤ 256 → (keysTo m k).filter (fun y => decide (y = keyN n)) = if n < k then List.replicate (m n) (keyN n) else []
  | 0, _ => by simp [keysTo]
  | k + 1, hk => by
    have ih := filter_keys m n hn k (by omega)
    rw [keysTo_succ, List.filter_append, ih]
    by_cases h : n = k
    · subst h
      rw [if_neg (by omega), if_pos (by omega), List.nil_append, List.filter_eq_self]
      intro x hx
      rw [(List.mem_replicate.1 hx).2]; simp
    · have h2 : (List.replicate (m k) (keyN k)).filter (fun y => decide (y = keyN n)) = [] := by
        rw [List.filter_eq_nil_iff]
        intro x hx e
        rw [(List.mem_replicate.1 hx).2, decide_eq_true_eq] at e
        exact h (keyN_inj n k hn (by omega) e.symm)
      rw [h2, List.append_nil]
      by_cases h3 : n < k
      · rw [if_pos h3, if_pos (by omega)]
      · rw [if_neg h3, if_neg (by omega)]
theorem flat_congr {α β : Type} {l : List α} {f g : α → List β} (h : ∀ x ∈ l, f x = g x) : l.flatMap f = l.flatMap g := by
  rw [List.flatMap_def, List.flatMap_def, List.map_congr_left h]
theorem flat_rep {α : Type} (x : α) (b : Nat) : ∀ a, (List.replicate a x).flatMap (fun y => List.replicate b y) = List.replicate (a * b) x
  | 0 => by simp
  | a + 1 => by
    rw [List.replicate_succ, List.flatMap_cons, flat_rep x b a, List.replicate_append_replicate, Nat.succ_mul, Nat.add_comm]
theorem pairs_told (A : List Bs) : (pairsP (A.map fun x => (x, [])) (A.map fun x => (x, []))).map toldP = A.flatMap fun x => A.filter fun y => decide (y = x) := by
  unfold pairsP
  rw [List.flatMap_map, List.map_flatMap]
  refine flat_congr fun x hx => ?_
  rw [List.filter_map, List.map_map, List.map_map]
  have : (A.filter ((fun y => decide (y.1 = x)) ∘ fun x => ((x, []) : Rw))) = A.filter fun y => decide (y = x) := rfl
  rw [this]
  refine (List.map_congr_left (g := id) fun y hy => ?_).trans (List.map_id _)
  have := (List.mem_filter.1 hy).2
  rw [decide_eq_true_eq] at this
  simp [toldP, this]
theorem told_keys (m : Nat → Nat) : (keysTo m 256).flatMap (fun x => (keysTo m 256).filter fun y => decide (y = x)) = keysTo (fun n => m n * m n) 256 := by
  show ((List.range 256).flatMap fun n => List.replicate (m n) (keyN n)).flatMap _ = (List.range 256).flatMap fun n => List.replicate (m n * m n) (keyN n)
  rw [List.flatMap_assoc]
  refine flat_congr fun n hn => ?_
  rw [← flat_rep]
  refine flat_congr fun x hx => ?_
  rw [(List.mem_replicate.1 hx).2, filter_keys m n (List.mem_range.1 hn) 256 (by omega), if_pos (List.mem_range.1 hn)]
theorem flat_len (A : List Bs) (B : List Bs) : (B.flatMap fun x => A.filter fun y => decide (y = x)).length ≤ B.length * A.length := by
  induction B with
  | nil => simp
  | cons b B ih =>
    rw [List.flatMap_cons, List.length_append, List.length_cons, Nat.succ_mul]
    have := List.length_filter_le (fun y => decide (y = b)) A
    omega
theorem join_keys (m : Nat → Nat) (h : (keysTo m 256).length ≤ 200) : joinP 1 1 58 (keysTo m 256) (keysTo m 256) = (keysTo (fun n => m n * m n) 256, 0) := by
  have hb : btwc 58 = 58 := by decide
  unfold joinP
  rw [hb, rows_keys, sorted_keys, if_neg (by simp), if_neg ?_, pairs_told, told_keys]
  have h1 := congrArg List.length (pairs_told (keysTo m 256))
  rw [List.length_map] at h1
  rw [h1]
  have h2 := flat_len (keysTo m 256) (keysTo m 256)
  have h3 := Nat.mul_le_mul h h
  omega
/-- how often a byte stands there -/
def cntN (l : Bs) (n : Nat) : Nat := l.countP fun c => decide (c.toNat = n)
theorem keysTo_len (l : Bs) : ∀ k, (keysTo (cntN l) k).length = l.countP fun c => decide (c.toNat < k)
  | 0 => by simp [keysTo]
  | k + 1 => by
    rw [keysTo_succ, List.length_append, List.length_replicate, keysTo_len l k]
    unfold cntN
    induction l with
    | nil => rfl
    | cons c l ih =>
      simp only [List.countP_cons, decide_eq_true_eq]
      by_cases h1 : c.toNat < k
      · rw [if_pos h1, if_neg (by omega), if_pos (by omega)]; omega
      · by_cases h2 : c.toNat = k
        · rw [if_neg h1, if_pos h2, if_pos (by omega)]; omega
        · rw [if_neg h1, if_neg h2, if_neg (by omega)]; omega
theorem keysTo_le (l : Bs) (k : Nat) : (keysTo (cntN l) k).length ≤ l.length := by rw [keysTo_len]; exact List.countP_le_length
theorem cntN_le (l : Bs) (n : Nat) : cntN l n ≤ l.length := List.countP_le_length
theorem cntN_snoc (l : Bs) (c : UInt8) (n : Nat) : cntN (l ++ [c]) n = cntN l n + if c.toNat = n then 1 else 0 := by
  unfold cntN
  rw [List.countP_append]
  simp [List.countP_cons]
/-- so many squares -/
theorem keysTo_sq (l : Bs) (h : l.length ≤ 200) : ∀ k, (keysTo (fun n => cntN l n * cntN l n) k).length ≤ 200 * (keysTo (cntN l) k).length
  | 0 => by simp [keysTo]
  | k + 1 => by
    have ih := keysTo_sq l h k
    rw [keysTo_succ, keysTo_succ, List.length_append, List.length_append, List.length_replicate, List.length_replicate]
    have h1 := Nat.mul_le_mul_right (cntN l k) (Nat.le_trans (cntN_le l k) h)
    rw [Nat.mul_add]; omega
end Go.Proofs.YtjkajhnnoecjbaaDoor.Vw
