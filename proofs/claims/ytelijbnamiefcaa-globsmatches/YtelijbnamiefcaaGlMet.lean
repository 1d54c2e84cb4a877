/- Small facts for the laws: texts that are the same; what Check and Match answer, by their Boolean. -/
import Derived.Test.YtelijbnamiefcaaGlQuote
import Derived.Test.YtelijbnamiefcaaGlFacts
namespace Go.Proofs.Ytelijbnamiefcaa.Gl
open Go.RowKit

theorem str_eq (a b : ByteArray) : (a.toList == b.toList) = decide (bs a = bs b) := by
  rw [ByteArray.toList_eq, ByteArray.toList_eq, Bool.eq_iff_iff]
  simp
theorem check_below (s : ByteArray) (b : Bool) (w : World) (hs : s.size ≤ 4611686018427387904) (h : checkP (bs s) = b) : Calls Try.prog 9 #[.string s] w fun e w' => e = .returned (.bool b) ∧ Below w.heap.size w w' := by
  subst h
  exact (check_any s w hs).mono fun e w' h => ⟨h.1, by obtain ⟨q, hq⟩ := h.2; rw [hq]; exact below_drew _ _⟩
theorem match_below (s n : ByteArray) (b : Bool) (w : World) (hs : s.size ≤ 4611686018427387904) (hn : n.size ≤ 4611686018427387904) (h : matchP (bs s) (bs n) = b) : Calls Try.prog 11 #[.string s, .string n] w fun e w' => e = .returned (.bool b) ∧ Below w.heap.size w w' := by
  subst h
  exact match_any s n w hs hn
theorem bs_app (a b : ByteArray) : bs (a ++ b) = bs a ++ bs b := by simp [bs, ByteArray.data_append]
theorem size_app (a b : ByteArray) : (a ++ b).size = a.size + b.size := by rw [← bs_len, bs_app, List.length_append, bs_len, bs_len]
theorem mem_take {s : ByteArray} {k : Nat} (hk : k < s.size) {P : UInt8 → Prop} (h : ∀ c ∈ (bs s).take k, P c) (h2 : P s[k]) : ∀ c ∈ (bs s).take (k + 1), P c := by
  rw [take_bs s k hk]
  intro c hc
  rw [List.mem_append] at hc
  rcases hc with hc | hc
  · exact h c hc
  · rw [List.mem_singleton] at hc; rw [hc]; exact h2
theorem take_all (s : ByteArray) (k : Nat) (h : s.size ≤ k) : (bs s).take k = bs s := List.take_of_length_le (by rw [bs_len]; exact h)
theorem match_small {s : Bs} (n : Bs) {ts : List Th} (h : s.length ≤ 4096) (hr : rdA s = some ts) : matchP s n = mt ts n := by
  unfold matchP
  rw [readP_of h, hr]
theorem check_small {s : Bs} (h : s.length ≤ 4096) : checkP s = (rdA s).isSome := by
  unfold checkP
  rw [readP_of h]
end Go.Proofs.Ytelijbnamiefcaa.Gl
