/- What the document's Split and Fields answer: the same. -/
import Derived.Test.YtmaenfcnkcaojaaDoorLnFields
import Derived.Test.YtmaenfcnkcaojaaDoorTexts
namespace Go.Proofs.YtmaenfcnkcaojaaDoor.Ln
open Go.RowKit Go.Shelf

theorem one_new' (w : World) (x : Value) (e : TypeId) : ∀ j u, [x][j]? = some u → (w.alloc (.cells #[x] e)).cell? ((⟨w.heap.size, 0, none⟩ : Addr).add j) = some u := by
  intro j u hj
  match j, hj with
  | 0, hj => simp at hj; subst hj; simp [Addr.add]
theorem one_one' (s : ByteArray) : ∀ u ∈ [Value.string s], u.oneCell' = true := by
  intro u hu; simp at hu; subst hu; rfl
theorem row_sl {W : World} {base : Nat} {e : TypeId} {size : Nat} {v : Value} {k : Nat} {xs : List Value} (h : W.ownsRow base e size v k xs) : ∃ a n c, v = .slice a n c := by
  rcases h.2 with ⟨hv, _⟩ | ⟨g, cap, cur, hv, _⟩ <;> exact ⟨_, _, _, hv⟩
theorem last_true {pre : List (List UInt8 × Bool)} (h : ∀ q ∈ pre, q.2 = true) : lastB pre = !pre.isEmpty ∧ lastT pre = true := by
  rcases List.eq_nil_or_concat pre with rfl | ⟨q, x, rfl⟩
  · exact ⟨rfl, rfl⟩
  · have := h x (by simp)
    simp [lastB, lastT, this]

theorem bt_drop' (s : ByteArray) (i : Nat) : bt (s.data.toList.drop i) = s.extract i s.size := by
  rw [bt_extract, List.take_of_length_le (by rw [List.length_drop]; exact Nat.le_refl _)]
/-- what has come, b bytes being read, the part that is under way beginning at a -/
structure PInv (p : UInt8 → Bool) (l : List UInt8) (a b : Nat) (pre : List (List UInt8 × Bool)) : Prop where
  split : parts p l = pre ++ parts p (l.drop a)
  clean : ∀ c ∈ (l.drop a).take (b - a), p c = false
  ends : ∀ q ∈ pre, q.2 = true
theorem PInv.start (p : UInt8 → Bool) (l : List UInt8) : PInv p l 0 0 [] := ⟨by simp, by simp, by simp⟩
theorem PInv.hit {p : UInt8 → Bool} {l : List UInt8} {a b : Nat} {pre : List (List UInt8 × Bool)} (h : PInv p l a b pre) (hab : a ≤ b) (hb : b < l.length) (hp : p l[b] = true) : PInv p l (b + 1) (b + 1) (pre ++ [((l.drop a).take (b - a), true)]) := by
  refine ⟨parts_go h.split hab hb h.clean hp, by simp, ?_⟩
  intro q hq
  rcases List.mem_append.1 hq with hq | hq
  · exact h.ends q hq
  · simp at hq; subst hq; rfl
theorem PInv.miss {p : UInt8 → Bool} {l : List UInt8} {a b : Nat} {pre : List (List UInt8 × Bool)} (h : PInv p l a b pre) (hab : a ≤ b) (hb : b < l.length) (hp : p l[b] = false) : PInv p l a (b + 1) pre :=
  ⟨h.split, take_more hab hb h.clean hp, h.ends⟩
theorem PInv.last {p : UInt8 → Bool} {l : List UInt8} {a b : Nat} {pre : List (List UInt8 × Bool)} (h : PInv p l a b pre) (hb : b = l.length) (ha : a < l.length) : parts p l = pre ++ [(l.drop a, false)] := by
  rw [h.split, parts_end (l.drop a)]
  · intro c hc
    refine h.clean c ?_
    rwa [List.take_of_length_le (by rw [List.length_drop]; omega)]
  · intro e
    have := congrArg List.length e
    rw [List.length_drop, List.length_nil] at this
    omega
theorem PInv.whole {p : UInt8 → Bool} {l : List UInt8} {a b : Nat} {pre : List (List UInt8 × Bool)} (h : PInv p l a b pre) (ha : l.length ≤ a) : parts p l = pre := by
  rw [h.split, List.drop_eq_nil_of_le ha, parts_nil, List.append_nil]
theorem PInv.len {p : UInt8 → Bool} {l : List UInt8} {a b : Nat} {pre : List (List UInt8 × Bool)} (h : PInv p l a b pre) : pre.length ≤ l.length := by
  have h1 := parts_len p l
  rw [h.split, List.length_append] at h1
  omega

theorem blank_any (c : Nat) (w : World) :
    Calls Tryd.prog 21 #[.int .u8 c] w fun e w' => e = .returned (.bool (decide (c = 32) || decide (c = 9))) ∧ w' = w := by
  obtain ⟨r, hr⟩ : ∃ r, r = (decide (c = 32) || decide (c = 9)) := ⟨_, rfl⟩
  rw [← hr]
  rcases (show c = 32 ∨ c = 9 ∨ (c ≠ 32 ∧ c ≠ 9) by omega) with rfl | rfl | ⟨h, h'⟩
  · obtain rfl : r = true := by rw [hr]; rfl
    clear hr
    go_enter Tryd.func21, Tryd.ntmps21
    go_wp2
    go_ret
    exact ⟨rfl, rfl⟩
  · obtain rfl : r = true := by rw [hr]; rfl
    clear hr
    go_enter Tryd.func21, Tryd.ntmps21
    go_wp2
    go_ret
    exact ⟨rfl, rfl⟩
  · have a1 : ((c : Int) == 32) = false := by simp; omega
    have a2 : ((c : Int) == 9) = false := by simp; omega
    obtain rfl : r = false := by rw [hr]; simp [h, h']
    clear hr
    go_enter Tryd.func21, Tryd.ntmps21
    go_wp2
    go_ret
    exact ⟨rfl, rfl⟩

theorem runsOf_len' (l : List (List UInt8 × Bool)) : (runsOf l).length ≤ l.length := by
  unfold runsOf; exact Nat.le_trans (List.length_filter_le _ _) (by simp)
/-- what the loop of the document's Fields has told: b bytes read, or all and the end -/
def FInv (p : UInt8 → Bool) (l : List UInt8) (tell : List (List UInt8 × Bool) → List (List UInt8)) (all : List (List UInt8)) (a b : Nat) (F : List (List UInt8)) : Prop :=
  (b ≤ l.length ∧ a ≤ b ∧ ∃ pre, PInv p l a b pre ∧ F = tell pre) ∨ (b = l.length + 1 ∧ F = all)

def fsts (l : List (List UInt8 × Bool)) : List (List UInt8) := l.map (·.1)
theorem fsts_snoc (l : List (List UInt8 × Bool)) (x : List UInt8) (b : Bool) : fsts (l ++ [(x, b)]) = fsts l ++ [x] := by simp [fsts]

end Go.Proofs.YtmaenfcnkcaojaaDoor.Ln
