/- What isNode, isDir, sizeOf, Stat and Sizes answer. -/
import Derived.Test.YtbajjbgeohbdjaaTrCheck
namespace Go.Proofs.Ytbajjbgeohbdjaa.Tr
open Go.RowKit Go.Proofs.Ytbajjbgeohbdjaa.Cu

/-- a tree that is not too great to be walked -/
structure Sm (ns : List Nd) : Prop where
  hn : ns.length ≤ 1000000
  hls : ∀ i, (nd ns i).list.length ≤ 1000000000
  hby : bytesP ns ns.length ≤ 1000000000
  hna : namesP ns ns.length ≤ 1000000000
theorem checkAny {a : Option Addr} {n cap : Nat} {ns : List Nd} (now : Int) {w : World} (h : Ng w a n cap ns) (hs : Sm ns) :
    Calls Try.prog 8 #[.agg #[.slice a n cap, .int .i64 now]] w fun e w' => e = .returned (.bool (checkP now ns)) ∧ Below w.heap.size w w' :=
  check_any a n cap ns now w h (by rw [← h.len]; exact hs.hn) hs.hls hs.hby hs.hna
theorem box_keep {w W : World} {c : Array Value} {e : TypeId} (hb : Below (w.alloc (.cells c e)).heap.size (w.alloc (.cells c e)) W) : W.heap[w.heap.size]? = some (.cells c e) ∧ Below w.heap.size w W ∧ w.heap.size < W.heap.size := by
  have h0 : Below w.heap.size w (w.alloc (.cells c e)) := (Below.refl _ _).alloc (Nat.le_refl _) _
  have hs : w.heap.size < (w.alloc (.cells c e)).heap.size := by simp
  exact ⟨(hb.block _ hs).trans (heap_alloc_new w _), h0.trans (hb.mono h0.size), Nat.lt_of_lt_of_le hs hb.size⟩
def nodeP (now : Int) (ns : List Nd) (i : Int) : Bool := checkP now ns && decide (0 < i) && decide (i < (ns.length : Int)) && decide ((nd ns i.toNat).kind ≠ 0)
def isDirP (now : Int) (ns : List Nd) (i : Int) : Bool := nodeP now ns i && decide ((nd ns i.toNat).kind = 2)
theorem checkP_two {now : Int} {ns : List Nd} (h : checkP now ns = true) : 2 ≤ ns.length := by
  unfold checkP rootP at h
  simp only [Bool.and_eq_true, decide_eq_true_eq] at h
  exact h.1.1.1.2.1.1.1.1.1
set_option maxRecDepth 100000 in
set_option maxHeartbeats 1000000 in
theorem isNode_any (a : Option Addr) (n cap : Nat) (ns : List Nd) (now i : Int) (w : World) (h : Ng w a n cap ns) (hs : Sm ns) :
    Calls Try.prog 72 #[.agg #[.slice a n cap, .int .i64 now], .int .i64 i] w fun e w' => e = .returned (.bool (nodeP now ns i)) ∧ Below w.heap.size w w' := by
  have HC : Hid (∀ W, Below w.heap.size w W → Calls Try.prog 8 #[.agg #[.slice a n cap, .int .i64 now]] W fun e w' => e = .returned (.bool (checkP now ns)) ∧ Below W.heap.size W w') := fun W hW => checkAny now (h.below hW) hs
  have hlen := h.len
  have hQ : Hid (checkP now ns = true → 2 ≤ n) := fun q => by rw [← hlen]; exact checkP_two q
  have hP : nodeP now ns i = (checkP now ns && decide (0 < i) && decide (i < (n : Int)) && decide ((nd ns i.toNat).kind ≠ 0)) := by unfold nodeP; rw [hlen]
  rw [hP]
  clear hP hlen hs
  have HG := hide h
  clear h
  generalize checkP now ns = q at *
  have hb0 : Hid (Below w.heap.size w (w.alloc (.cells #[.slice a n cap, .int .i64 now] 24))) := (Below.refl _ _).alloc (Nat.le_refl _) _
  cases q with
  | false =>
    simp only [Bool.false_and]
    go_enter Try.func72, Try.ntmps72
    go_wp2_with fail
    refine (unhide HC _ (unhide hb0)).mono ?_
    rintro e w1 ⟨rfl, b1⟩
    have hB := hide (box_keep b1).2.1
    clear b1 HC HG
    go_wp2
    go_ret
    exact ⟨rfl, unhide hB⟩
  | true =>
    rw [Bool.true_and]
    have h2 := unhide hQ rfl
    by_cases a1 : 0 < i
    case neg =>
      rw [show decide (0 < i) = false by simp [a1]]
      simp only [Bool.false_and]
      go_enter Try.func72, Try.ntmps72
      go_wp2_with fail
      refine (unhide HC _ (unhide hb0)).mono ?_
      rintro e w1 ⟨rfl, b1⟩
      have hB := hide (box_keep b1).2.1
      clear b1 HC HG
      go_wp2
      go_ret
      exact ⟨rfl, unhide hB⟩
    rw [show decide (0 < i) = true by simp [a1], Bool.true_and]
    by_cases a2 : i < (n : Int)
    case neg =>
      rw [show decide (i < (n : Int)) = false by simp [a2]]
      simp only [Bool.false_and]
      go_enter Try.func72, Try.ntmps72
      go_wp2_with fail
      refine (unhide HC _ (unhide hb0)).mono ?_
      rintro e w1 ⟨rfl, b1⟩
      have hB := hide (box_keep b1).2.1
      have c0 : w1.cell? ⟨w.heap.size, 0, none⟩ = some (.slice a n cap) := by rw [cell_of_row _ _ _ _ _ _ (box_keep b1).1]; rfl
      clear b1 HC HG
      go_wp2
      go_ret
      exact ⟨rfl, unhide hB⟩
    rw [show decide (i < (n : Int)) = true by simp [a2], Bool.true_and]
    obtain ⟨k, rfl⟩ : ∃ k : Nat, i = (k : Int) := ⟨i.toNat, by omega⟩
    rw [Int.toNat_natCast]
    have hkn : k < n := by omega
    rcases (unhide HG).cells with h0 | ⟨b, off, rfl, hb, hc⟩
    · omega
    have HX : Hid (∀ W, Below w.heap.size w W → W.cell? ⟨b, off + k * 10, none⟩ = some (.int .u8 (nd ns k).kind.toNat)) := fun W hW => by
      obtain ⟨_, _, _, _, q, -, -⟩ := (hc k hkn).below hb hW
      exact q.c0
    clear hc HG
    by_cases a3 : (nd ns k).kind = 0
    · rw [a3] at HX ⊢
      go_enter Try.func72, Try.ntmps72
      go_wp2_with fail
      refine (unhide HC _ (unhide hb0)).mono ?_
      rintro e w1 ⟨rfl, b1⟩
      have hB := hide (box_keep b1).2.1
      have c0 : w1.cell? ⟨w.heap.size, 0, none⟩ = some (.slice (some ⟨b, off, none⟩) n cap) := by rw [cell_of_row _ _ _ _ _ _ (box_keep b1).1]; rfl
      have cx : w1.cell? ⟨b, off + k * 10, none⟩ = some (.int .u8 0) := unhide HX w1 (unhide hB)
      clear b1 HC HX
      go_wp2
      go_ret
      exact ⟨rfl, unhide hB⟩
    · rw [show decide ((nd ns k).kind ≠ 0) = true by simp [a3]]
      have a4 : ¬ ((nd ns k).kind.toNat : Int) = 0 := fun e => a3 (UInt8.toNat_inj.1 (by simpa using e))
      generalize (nd ns k).kind.toNat = kn at *
      go_enter Try.func72, Try.ntmps72
      go_wp2_with fail
      refine (unhide HC _ (unhide hb0)).mono ?_
      rintro e w1 ⟨rfl, b1⟩
      have hB := hide (box_keep b1).2.1
      have c0 : w1.cell? ⟨w.heap.size, 0, none⟩ = some (.slice (some ⟨b, off, none⟩) n cap) := by rw [cell_of_row _ _ _ _ _ _ (box_keep b1).1]; rfl
      have cx := unhide HX w1 (unhide hB)
      clear b1 HC HX
      go_wp2
      go_ret
      exact ⟨by simp; omega, unhide hB⟩
end Go.Proofs.Ytbajjbgeohbdjaa.Tr
