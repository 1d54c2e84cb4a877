/- What Join answers, the program's and the document's. -/
import Derived.Test.YtbamldjifempfaaLnBuild
import Derived.Test.YtbamldjifempfaaTexts
import Derived.Laws.IdiomStrings
import Derived.Laws.AppendOwnNone
namespace Go.Proofs.Ytbamldjifempfaa.Pa
open Go.RowKit Go.Shelf

def joinL (ss : List ByteArray) : List UInt8 := ss.flatMap fun s => s.data.toList ++ [10]
theorem joinL_snoc {ss : List ByteArray} {k : Nat} (h : k < ss.length) : joinL (ss.take (k + 1)) = (joinL (ss.take k) ++ (ss.getD k ByteArray.empty).data.toList) ++ [10] := by
  have e : ss.getD k ByteArray.empty = ss[k] := by simp [List.getD, List.getElem?_eq_getElem h]
  rw [List.take_succ_eq_append_getElem h, e]
  unfold joinL
  rw [List.flatMap_append, List.append_assoc]
  simp
theorem joinL_len (ss : List ByteArray) : (joinL ss).length = ss.length + tot ss := by
  induction ss with
  | nil => rfl
  | cons s l ih =>
    have e : (s.data.toList).length = s.size := rfl
    simp only [joinL, List.flatMap_cons, List.length_append, List.length_cons, List.length_nil, tot] at ih ⊢
    omega
theorem tot_take_le (ss : List ByteArray) (k : Nat) : tot (ss.take k) ≤ tot ss := by
  induction ss generalizing k with
  | nil => simp
  | cons s l ih =>
    cases k with
    | zero => simp [tot]
    | succ k => simp only [List.take_succ_cons, tot]; have := ih k; omega
theorem joinL_take_len (ss : List ByteArray) (k : Nat) (h : ss.length + tot ss ≤ 4194304) : (joinL (ss.take k)).length ≤ 4194304 := by
  rw [joinL_len]
  have := tot_take_le ss k
  have := List.length_take_le k ss
  have : (ss.take k).length ≤ ss.length := by simp; omega
  omega

set_option maxHeartbeats 2000000 in
set_option maxRecDepth 100000 in
theorem join_some (b off n cap : Nat) (ss : List ByteArray) (w : World) (hc : ∀ i, i < n → w.cell? ⟨b, off + i, none⟩ = some (.string (ss.getD i ByteArray.empty))) (hb : b < w.heap.size) (hl : ss.length = n) (htot : ss.length + tot ss ≤ 4194304) :
    Calls Try.prog 11 #[.slice (some ⟨b, off, none⟩) n cap] w fun e w' => e = .returned (.string ⟨(joinL ss).toArray⟩) ∧ Below w.heap.size w w' := by
  have HC := hide hc
  have HL := hide hl
  have hn : n ≤ 4194304 := by omega
  have HT : Hid (∀ k, (joinL (ss.take k)).length ≤ 4194304) := fun k => joinL_take_len ss k htot
  have HT2 : Hid (∀ k, k < n → (ss.getD k ByteArray.empty).size + (joinL (ss.take k)).length + 1 ≤ 4194304) := fun k hk => by
    have h1 := joinL_take_len ss (k + 1) htot
    rw [joinL_snoc (by omega), List.length_append, List.length_append] at h1
    have e : ((ss.getD k ByteArray.empty).data.toList).length = (ss.getD k ByteArray.empty).size := rfl
    simp at h1 ⊢
    omega
  clear hc hl htot
  go_enter Try.func11, Try.ntmps11
  go_wp2_with fail
  go_loopw [8] (fun i wr => ∃ k : Nat, k ≤ n ∧ i = .int .i64 k ∧ Hid (Ln.IsB w.heap.size w.heap.size (joinL (ss.take k)) wr) ∧ Hid (Below w.heap.size w wr)) (fun i _ => n - (intOf i).toNat)
  case atStart => exact ⟨0, Nat.zero_le _, rfl, Lib.fresh_isBuilder 41 5 w, (Below.refl _ _).alloc (Nat.le_refl _) _⟩
  case round =>
    obtain ⟨k, hk, rfl, hI, hB⟩ := hrel
    have hsz := (unhide hB).size
    by_cases hlt : k < n
    · have hlt' : (k : Int) < (n : Int) := by omega
      have hcell : wr.cell? ⟨b, off + k, none⟩ = some (.string (ss.getD k ByteArray.empty)) := ((unhide hB).cell hb).trans (unhide HC k hlt)
      have hj := hide (joinL_snoc (ss := ss) (k := k) (by rw [unhide HL]; exact hlt))
      have hm := unhide HT2 k hlt
      obtain ⟨x, hx⟩ : ∃ x, x = ss.getD k ByteArray.empty := ⟨_, rfl⟩
      rw [← hx] at hcell hj hm
      have H1 := hide (Ln.writeString_any w.heap.size w.heap.size _ x wr (unhide hI) (by rw [Lib.byteCells_length]; omega) hsz)
      clear hx hI
      go_wp2_with fail
      refine (unhide H1).mono ?_
      rintro e w1 ⟨rfl, hI1, hB1⟩
      have hB1' : Hid (Below w.heap.size w w1) := (unhide hB).trans hB1
      have hsz1 := (unhide hB1').size
      have H2 := hide (Ln.writeByte_any w.heap.size w.heap.size _ 10 w1 hI1 (by rw [List.length_append, Lib.strCells_length, Lib.byteCells_length]; omega) hsz1)
      clear hI1 H1 hcell hB hB1
      go_wp2_with fail
      refine (unhide H2).mono ?_
      rintro e w2 ⟨rfl, hI2, hB2⟩
      have hB2' : Hid (Below w.heap.size w w2) := (unhide hB1').trans hB2
      have hI3 : Hid (Ln.IsB w.heap.size w.heap.size (joinL (ss.take (k + 1))) w2) := by
        show Ln.IsB _ _ _ _
        unfold Ln.IsB
        rw [unhide hj, Lib.byteCells_append, Lib.byteCells_append]
        exact hI2
      clear hI2 H2 hB1' hB2
      go_wp2_with fail
      go_roundw
      case rel => exact ⟨k + 1, by omega, by go_num, hI3, hB2'⟩
      case measure => simp [intOf]; omega
    · have e : ss.take k = ss := List.take_of_length_le (by rw [unhide HL]; omega)
      have H1 := hide (Ln.string_any w.heap.size w.heap.size _ wr (unhide hI) hsz)
      rw [e] at H1
      clear hI e
      go_wp2_with fail
      refine (unhide H1).mono ?_
      rintro e w1 ⟨rfl, hB1⟩
      have hB1' : Hid (Below w.heap.size w w1) := (unhide hB).trans hB1
      clear H1 hB1
      go_wp2_with fail
      go_ret
      exact ⟨rfl, unhide hB1'⟩

set_option maxHeartbeats 1000000 in
theorem join_none (a : Option Addr) (cap : Nat) (w : World) :
    Calls Try.prog 11 #[.slice a 0 cap] w fun e w' => e = .returned (.string ⟨(joinL []).toArray⟩) ∧ Below w.heap.size w w' := by
  have H1 := hide (Ln.string_any w.heap.size w.heap.size [] _ (Lib.fresh_isBuilder 41 5 w) (by simp))
  go_enter Try.func11, Try.ntmps11
  go_wp2_with fail
  refine wp_loop_rounds 1 ?_
  rw [rounds_succ]
  go_wp2_with fail
  refine (unhide H1).mono ?_
  rintro e w1 ⟨rfl, hB1⟩
  go_wp2_with fail
  go_ret
  exact ⟨rfl, ((Below.refl _ _).alloc (Nat.le_refl _) _).trans hB1⟩

theorem join_any (a : Option Addr) (n cap : Nat) (ss : List ByteArray) (w : World) (h : Tx w a n cap ss) (htot : ss.length + tot ss ≤ 4194304) :
    Calls Try.prog 11 #[.slice a n cap] w fun e w' => e = .returned (.string ⟨(joinL ss).toArray⟩) ∧ Below w.heap.size w w' := by
  rcases h.cells with rfl | ⟨b, off, rfl, hb, hc⟩
  · obtain rfl : ss = [] := List.eq_nil_of_length_eq_zero h.len
    exact join_none a cap w
  · exact join_some b off n cap ss w hc hb h.len htot

end Go.Proofs.Ytbamldjifempfaa.Pa
