/- TreePaths walked. -/
import Derived.Test.YtighgaocnpofpaaTrPathsP
import Derived.Test.YtighgaocnpofpaaTrLives
import Derived.Test.YtighgaocnpofpaaTrGreat
namespace Go.Proofs.Ytighgaocnpofpaa.Tr
open Go.RowKit Go.Proofs.Ytighgaocnpofpaa.Cu

theorem Nt.step {w W W' : World} {o : Obj} (h : Nt w W o) (hb : Below W.heap.size W W') : Nt w W' o :=
  ⟨h.below.trans (hb.mono h.below.size), (hb.block _ h.sz).trans h.box, Nat.le_trans h.sz hb.size⟩
abbrev tO (a : Option Addr) (n cap : Nat) (now : Int) : Obj := .cells #[.slice a n cap, .int .i64 now] 24
theorem Nt.c {w W : World} {a : Option Addr} {n cap : Nat} {now : Int} (h : Nt w W (tO a n cap now)) : W.cell? ⟨w.heap.size, 0, none⟩ = some (.slice a n cap) ∧ W.cell? ⟨w.heap.size, 1, none⟩ = some (.int .i64 now) :=
  ⟨by rw [cell_of_row _ _ _ _ _ _ h.box]; rfl, by rw [cell_of_row _ _ _ _ _ _ h.box]; rfl⟩
/-- the rest of a path: the name at hand, and what is behind it -/
theorem jn_at {l : List ByteArray} {x : ByteArray} {r : List ByteArray} (hl : l = x :: r) (k : Nat) : (k < x.size → (jn l)[k]? = (bs x)[k]?) ∧ (k = x.size → r = [] → (jn l).length = k) ∧ (k = x.size → r ≠ [] → (jn l)[k]? = some 47 ∧ (jn l).drop (k + 1) = jn r) ∧ (jn l).take x.size = bs x ∧ x.size ≤ (jn l).length := by
  subst hl
  have hx : (bs x).length = x.size := rfl
  cases r with
  | nil => exact ⟨fun _ => rfl, fun h _ => by rw [h]; rfl, fun _ h => absurd rfl h, List.take_of_length_le (by show (bs x).length ≤ _; omega), Nat.le_refl _⟩
  | cons y r =>
    show (k < x.size → (bs x ++ 47 :: jn (y :: r))[k]? = _) ∧ _ ∧ (_ → _ → (bs x ++ 47 :: jn (y :: r))[k]? = _ ∧ (bs x ++ 47 :: jn (y :: r)).drop (k + 1) = _) ∧ (bs x ++ 47 :: jn (y :: r)).take x.size = _ ∧ x.size ≤ (bs x ++ 47 :: jn (y :: r)).length
    refine ⟨fun h => List.getElem?_append_left (by omega), fun _ h => by simp at h, fun h _ => ⟨?_, ?_⟩, ?_, ?_⟩
    · rw [List.getElem?_append_right (by omega), hx, h]; simp
    · rw [List.drop_append, hx, h, List.drop_of_length_le (by omega)]; simp
    · rw [← hx, List.take_left]
    · rw [List.length_append, hx]; omega
theorem up_dir {now : Int} {ns : List Nd} (hc : checkP now ns = true) {j c : Nat} (h : Up ns j c) : isDirP now ns (c : Int) = true := by
  obtain ⟨h1, _, _, h4, _⟩ := checkP_parts hc
  have hk : (nd ns c).kind = 2 ∧ 0 < c ∧ c < ns.length := by
    cases h with
    | root => exact ⟨h4, by omega, by omega⟩
    | step a b c d e => exact ⟨c, by omega, b⟩
  unfold isDirP nodeP
  rw [hc, Int.toNat_natCast, hk.1]
  simp
  omega
theorem up_pos {ns : List Nd} {j c : Nat} (h : Up ns j c) : 0 < c := by
  cases h with
  | root => omega
  | step a b c d e => omega
/-- what is known of a directory's path -/
structure Ph (now : Int) (ns : List Nd) (k : Nat) (L : List ByteArray) (P : ByteArray) : Prop where
  bsP : bs P = 47 :: jn L
  up : ∀ j, j ≤ L.length → Up ns j (walkN ns 1 (L.take j))
  fin : walkN ns 1 L = k
  ok : ∀ x ∈ L, nameP x = true
  path : pathV now ns (k : Int) = .tuple #[.string P, .int .i64 0]
  depth : depthV now ns (k : Int) = (L.length : Int)
  small : P.size ≤ 3000000
  len : L.length ≤ 16384
theorem ph_of {now : Int} {ns : List Nd} {k : Nat} (h : isDirP now ns (k : Int) = true) : ∃ L P, Ph now ns k L P := by
  have hc := (dir_list h).1
  have hu := (dir_up h).1
  obtain ⟨hl, hj⟩ := names_lead hc hu
  have hlen : (namesTo ns k).length = depN ns 32 k := by unfold namesTo; rw [List.length_reverse, hl]
  have hbj : bs (⟨#[47]⟩ ++ joined ns k) = 47 :: jn (namesTo ns k) := by
    show (⟨#[47]⟩ ++ joined ns k : ByteArray).data.toList = _
    rw [ByteArray.data_append, Array.toList_append]
    show [47] ++ (joined ns k).data.toList = _
    unfold joined
    rw [← jn_join]; rfl
  refine ⟨namesTo ns k, ⟨#[47]⟩ ++ joined ns k, hbj, fun j hjl => ?_, ?_, (namesTo_len h).1, ?_, ?_, ?_, (namesTo_len h).2⟩
  · exact (hj j (by omega)).1
  · have := (hj (depN ns 32 k) (Nat.le_refl _)).2 rfl
    rw [List.take_of_length_le (by rw [List.length_reverse, hl]; exact Nat.le_refl _)] at this
    exact this
  · unfold pathV; rw [h, Int.toNat_natCast]; rfl
  · unfold depthV; rw [h, Int.toNat_natCast]; rfl
  · rw [← bs_len, hbj, List.length_cons, ← jn_join]
    have := joined_size h
    omega
/-- the loop over a path's bytes -/
inductive Pi (L : List ByteArray) (P : ByteArray) (j fr i : Nat) : Prop
  | on (x : ByteArray) (r : List ByteArray) : L.drop j = x :: r → (bs P).drop fr = jn (x :: r) → fr ≤ i → i ≤ fr + x.size → Pi L P j fr i
  | done : j = L.length → (i = P.size + 1 ∨ P.size ≤ 1) → Pi L P j fr i
theorem pi_first {now : Int} {ns : List Nd} {k : Nat} {L : List ByteArray} {P : ByteArray} (h : Ph now ns k L P) : Pi L P 0 1 1 := by
  have hb := h.bsP
  cases L with
  | nil => exact .done rfl (.inr (by rw [← bs_len, hb]; simp [jn]))
  | cons x r => exact .on x r rfl (by rw [hb]; rfl) (Nat.le_refl _) (by omega)
end Go.Proofs.Ytighgaocnpofpaa.Tr
