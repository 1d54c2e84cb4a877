/- The document's Check answers what the program's does. -/
import Derived.Test.YthmoinagfooncaaGreatDoorTrRCheck
import Derived.Test.YthmoinagfooncaaGreatDoorTrGreat
import Derived.Test.YthmoinagfooncaaGreatDoorTrStatW
namespace Go.Proofs.YthmoinagfooncaaGreatDoor.Tr
open Go.RowKit Go.Proofs.YthmoinagfooncaaGreatDoor.Cu

theorem nd_out {ns : List Nd} {i : Nat} (h : ns.length ≤ i) : nd ns i = nz := by
  unfold nd; simp [List.getD, List.getElem?_eq_none h]
theorem rb_all {ns : List Nd} {n : Nat} (hl : ns.length = n) (hr : ∀ i, i < n → Rb (nd ns i)) : (∀ i, (nd ns i).target.size < 4611686018427387904) ∧ (∀ i k, (en (nd ns i).list k).name.size < 4611686018427387904) := by
  refine ⟨fun i => ?_, fun i k => ?_⟩
  · by_cases hi : i < n
    · have := (hr i hi).tg; omega
    · rw [nd_out (by omega)]; decide
  · by_cases hi : i < n
    · by_cases hk : k < (nd ns i).list.length
      · have := (hr i hi).nm k hk; omega
      · have e : en (nd ns i).list k = ez := by unfold en; simp [List.getD, List.getElem?_eq_none (Nat.le_of_not_lt hk)]
        rw [e]; decide
    · rw [nd_out (by omega)]
      have e : en ([] : List En) k = ez := by simp [en]
      show (en [] k).name.size < _
      rw [e]; decide
theorem rcheckAny {a : Option Addr} {n cap : Nat} {ns : List Nd} (now : Int) {w : World} (h : Ng w a n cap ns) (hs : Sm ns) (hr : ∀ i, i < n → Rb (nd ns i)) :
    Calls Tryz.prog 37 #[.agg #[.slice a n cap, .int .i64 now]] w fun e w' => e = .returned (.bool (checkP now ns)) ∧ Below w.heap.size w w' := by
  rw [← rcheck_eq]
  by_cases h2 : n < 2
  · have e : rcheckP now ns = false := by
      have : decide (2 ≤ ns.length) = false := decide_eq_false (by rw [h.len]; omega)
      simp [rcheckP, headR, this]
    rw [e]; exact rcheck_few a n cap now w h2
  by_cases h5 : 513 < n
  · have e : rcheckP now ns = false := by
      have : decide (ns.length ≤ 513) = false := decide_eq_false (by rw [h.len]; omega)
      simp [rcheckP, headR, this]
    rw [e]; exact rcheck_many a n cap now w h5
  rcases h.cells with h0 | ⟨b, off, rfl, hb, hc⟩
  · omega
  · exact rcheck_some b off n cap ns now w hc hb h.len (by omega) (by omega) hs (rb_all h.len hr).1 (rb_all h.len hr).2
end Go.Proofs.YthmoinagfooncaaGreatDoor.Tr
