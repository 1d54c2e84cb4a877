/- Run, with its answer told. -/
import Derived.Test.YtebnmjelelkcmabBkAlive
import Derived.Test.YtebnmjelelkcmabBkFacts
set_option linter.unusedVariables false
namespace Go.Proofs.Ytebnmjelelkcmab.Bk
open Go.RowKit Go.Shelf Cu

theorem run_is (p : Pl) (s t X : ByteArray) {a b c d : Nat} (h : runP p (bs s) (bs t) = ⟨bs X, a, b, c, d, 0⟩) (W : World) :
    Calls Try.prog 7 #[.agg (plC p), .string s, .string t] W fun e w' => e = .returned (.tuple #[.string X, .agg #[.int .i64 (a : Int), .int .i64 (b : Int), .int .i64 (c : Int), .int .i64 (d : Int)], .int .i64 0]) ∧ Below W.heap.size W w' := by
  have := run_any p s t W
  rw [h] at this
  exact this
/-- what is answered where all goes well -/
theorem runP_ok (p : Pl) (s t : Bs) (h : okP p = true) (hs : s.length ≤ 1048576) (ht : t.length ≤ 1048576) (hw : (p.se * p.o).toNat + (went p (tkn p s)).length ≤ 1048576) :
    runP p s t = ⟨putP p (went p (tkn p s)) t, whole p.i.toNat (tkn p s), parted p.i.toNat (tkn p s), (went p (tkn p s)).length / p.o.toNat, if (went p (tkn p s)).length % p.o.toNat = 0 then 0 else 1, 0⟩ := by
  unfold runP
  rw [if_neg (by rw [h]; simp), if_neg (by omega), if_neg (by omega)]
theorem put_zero (p : Pl) (g t : Bs) (h : p.se = 0) : putP p g t = g ++ (if p.kp = true then t.drop g.length else []) := by
  unfold putP
  rw [h, Int.zero_mul]
  simp
theorem pl_keep {W W' : World} {k : Nat} {p : Pl} (h : W.heap[k]? = some (PlO p)) (hb : Below W.heap.size W W') : W'.heap[k]? = some (PlO p) := (hb.block k (heap_lt h)).trans h
theorem bs_app (a b : ByteArray) : bs (a ++ b) = bs a ++ bs b := by simp [bs]
end Go.Proofs.Ytebnmjelelkcmab.Bk
