/- Comm in plain words: how far it has come. -/
import Derived.Test.YtmpppdbomdepoaaGreatDoorSoThree
namespace Go.Proofs.YtmpppdbomdepoaaGreatDoor.So
open Go.RowKit Ky

/-- how far it has come -/
def Cmd (A B : Ls) (i k : Nat) (L1 L2 L3 : Ls) : Prop :=
  comm A B = (L1 ++ (comm (A.drop i) (B.drop k)).1, L2 ++ (comm (A.drop i) (B.drop k)).2.1, L3 ++ (comm (A.drop i) (B.drop k)).2.2) ∧ L1.length + L3.length = i ∧ L2.length + L3.length = k
theorem Cmd.less {A B : Ls} {i k : Nat} {L1 L2 L3 : Ls} (h : Cmd A B i k L1 L2 L3) (hi : i < A.length) (hk : k < B.length) (hc : cmpL (A.getD i ByteArray.empty).data.toList (B.getD k ByteArray.empty).data.toList = -1) : Cmd A B (i + 1) k (L1 ++ [A.getD i ByteArray.empty]) L2 L3 := by
  refine ⟨?_, by rw [List.length_append, List.length_singleton]; have := h.2.1; omega, h.2.2⟩
  rw [h.1, drop_at hi, drop_at hk, comm_cons, if_pos (by omega)]; simp
theorem Cmd.more {A B : Ls} {i k : Nat} {L1 L2 L3 : Ls} (h : Cmd A B i k L1 L2 L3) (hi : i < A.length) (hk : k < B.length) (hc : cmpL (A.getD i ByteArray.empty).data.toList (B.getD k ByteArray.empty).data.toList = 1) : Cmd A B i (k + 1) L1 (L2 ++ [B.getD k ByteArray.empty]) L3 := by
  refine ⟨?_, h.2.1, by rw [List.length_append, List.length_singleton]; have := h.2.2; omega⟩
  rw [h.1, drop_at hi, drop_at hk, comm_cons, if_neg (by omega), if_pos (by omega)]; simp
theorem Cmd.same {A B : Ls} {i k : Nat} {L1 L2 L3 : Ls} (h : Cmd A B i k L1 L2 L3) (hi : i < A.length) (hk : k < B.length) (hc : cmpL (A.getD i ByteArray.empty).data.toList (B.getD k ByteArray.empty).data.toList = 0) : Cmd A B (i + 1) (k + 1) L1 L2 (L3 ++ [A.getD i ByteArray.empty]) := by
  refine ⟨?_, by rw [List.length_append, List.length_singleton]; have := h.2.1; omega, by rw [List.length_append, List.length_singleton]; have := h.2.2; omega⟩
  rw [h.1, drop_at hi, drop_at hk, comm_cons, if_neg (by omega), if_neg (by omega)]; simp
theorem Cmd.done {A B : Ls} {i k : Nat} {L1 L2 L3 : Ls} (h : Cmd A B i k L1 L2 L3) (he : A.length ≤ i ∨ B.length ≤ k) : comm A B = (L1 ++ A.drop i, L2 ++ B.drop k, L3) := by
  rw [h.1]
  rcases he with e | e
  · rw [List.drop_eq_nil_of_le e, comm_nil]; simp
  · rw [List.drop_eq_nil_of_le e, comm_nil']; simp
end Go.Proofs.YtmpppdbomdepoaaGreatDoor.So
