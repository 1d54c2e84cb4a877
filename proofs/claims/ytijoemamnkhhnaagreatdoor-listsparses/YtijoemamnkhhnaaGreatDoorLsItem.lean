/- What strings.Cut at one byte, the four readers and readItem answer. -/
import Derived.Test.YtijoemamnkhhnaaGreatDoorLsRead
import Derived.Deep.QuietTactic
import Derived.BigQuiet
import Derived.Lib.IndexLaws
namespace Go.Proofs.YtijoemamnkhhnaaGreatDoor.Ls
open Go.RowKit Go.Shelf

theorem drewN_below (w : World) (q : Nat) : Below w.heap.size w (w.drewN q) := ⟨rfl, rfl, rfl, Nat.le_refl _, fun _ _ => rfl⟩
theorem idx_none : ∀ {l : List UInt8} {d : UInt8}, (∀ c ∈ l, c ≠ d) → Lib.indexByte l d = -1
  | [], _, _ => rfl
  | c :: l, d, h => by
    have ih := idx_none (l := l) (d := d) (fun c hc => h c (by simp [hc]))
    have hc : (c == d) = false := by simpa using h c (by simp)
    simp [Lib.indexByte, hc, ih]
theorem idx_hit : ∀ {a : List UInt8} (d : UInt8) (b : List UInt8), (∀ c ∈ a, c ≠ d) → Lib.indexByte (a ++ d :: b) d = a.length
  | [], d, b, _ => by simp [Lib.indexByte]
  | c :: a, d, b, h => by
    have ih := idx_hit (a := a) d b (fun c hc => h c (by simp [hc]))
    have hc : (c == d) = false := by simpa using h c (by simp)
    have : ((a.length : Int) == -1) = false := by simp
    simp [Lib.indexByte, hc, ih, this]

set_option maxHeartbeats 1000000 in
set_option maxRecDepth 100000 in
theorem slCut_miss (s : ByteArray) (w : World) (h : Lib.indexByte (bs s) 45 = -1) :
    Calls Tryz.prog 89 #[.string s, .string { data := #[45] }] w fun e w' => e = .returned (.tuple #[.string s, .string ByteArray.empty, .bool false]) ∧ ∃ n, w' = w.drewN n := by
  have C := hide (Tryz.stringslite_Index_one s 45 w)
  rw [h] at C
  clear h
  go_enter Tryz.func89, Tryz.ntmps89
  go_wp2_with (go_at_call 95; refine (unhide C).mono ?_; rintro e w' ⟨rfl, rfl⟩)
  go_ret3
  exact ⟨rfl, 0, rfl⟩
set_option maxHeartbeats 1000000 in
set_option maxRecDepth 100000 in
theorem slCut_hit (s : ByteArray) (i : Nat) (w : World) (h : Lib.indexByte (bs s) 45 = i) (hi : i < s.size) (hs : s.size ≤ 4611686018427387904) :
    Calls Tryz.prog 89 #[.string s, .string { data := #[45] }] w fun e w' => e = .returned (.tuple #[.string (s.extract 0 i), .string (s.extract (i + 1) s.size), .bool true]) ∧ ∃ n, w' = w.drewN n := by
  have C := hide (Tryz.stringslite_Index_one s 45 w)
  rw [h] at C
  clear h
  have c1 : (0 : Int) ≤ ↑i := by omega
  have c2 : (↑i : Int) ≤ ↑s.size := by omega
  have c4 : (↑i + 1 : Int) ≤ ↑s.size := by omega
  go_enter Tryz.func89, Tryz.ntmps89
  go_wp2_with (go_at_call 95; refine (unhide C).mono ?_; rintro e w' ⟨rfl, rfl⟩)
  go_quiet (fail)
  go_wp2
  go_ret3
  exact ⟨rfl, nq, rfl⟩
set_option maxHeartbeats 400000 in
theorem cut_of {s : ByteArray} {w : World} {v : Value × Value × Value} (h : Calls Tryz.prog 89 #[.string s, .string { data := #[45] }] w fun e w' => e = .returned (.tuple #[v.1, v.2.1, v.2.2]) ∧ ∃ n, w' = w.drewN n) :
    Calls Tryz.prog 82 #[.string s, .string { data := #[45] }] w fun e w' => e = .returned (.tuple #[v.1, v.2.1, v.2.2]) ∧ ∃ n, w' = w.drewN n := by
  have H := hide h
  clear h
  go_enter Tryz.func82, Tryz.ntmps82
  go_wp2_with (go_at_call 89; refine (unhide H).mono ?_; rintro e w' ⟨rfl, n, rfl⟩)
  go_ret3
  exact ⟨rfl, n, rfl⟩

theorem ext_head (s : ByteArray) (i : Nat) : bs (s.extract 0 i) = (bs s).take i := by
  unfold bs; rw [Lib.extract_data]; simp
theorem ext_tail (s : ByteArray) (i : Nat) : bs (s.extract i s.size) = (bs s).drop i := by
  unfold bs; rw [Lib.extract_data]
  exact List.take_of_length_le (by simp)

/-- what Cut answers: two texts -/
def cutL (s : List UInt8) : List UInt8 := match cutD s with | none => s | some q => q.1
def cutR (s : List UInt8) : List UInt8 := match cutD s with | none => [] | some q => q.2
theorem cut_any (s : ByteArray) (w : World) (hs : s.size ≤ 4611686018427387904) :
    Calls Tryz.prog 82 #[.string s, .string { data := #[45] }] w fun e w' => (∃ (l r : ByteArray) (f : Bool), bs l = cutL (bs s) ∧ bs r = cutR (bs s) ∧ l.size ≤ s.size ∧ r.size ≤ s.size ∧ e = .returned (.tuple #[.string l, .string r, .bool f])) ∧ ∃ n, w' = w.drewN n := by
  rcases cutD_cases (bs s) with ⟨h1, h2⟩ | ⟨a, b, h1, h2, h3⟩
  · refine (cut_of (v := (.string s, .string ByteArray.empty, .bool false)) (slCut_miss s w (idx_none h2))).mono ?_
    rintro e w' ⟨rfl, hw⟩
    exact ⟨⟨s, ByteArray.empty, false, by simp [cutL, h1], by simp [cutR, h1], Nat.le_refl _, by simp, rfl⟩, hw⟩
  · have hl : a.length < s.size := by rw [← bs_len, h2]; simp
    have hi : Lib.indexByte (bs s) 45 = (a.length : Int) := by rw [h2]; exact idx_hit 45 b h3
    refine (cut_of (v := (.string _, .string _, .bool true)) (slCut_hit s a.length w hi hl hs)).mono ?_
    rintro e w' ⟨rfl, hw⟩
    refine ⟨⟨_, _, true, ?_, ?_, ?_, ?_, rfl⟩, hw⟩
    · rw [ext_head, h2]; simp [cutL, cutD_hit b h3]
    · rw [ext_tail, h2]; simp [cutR, cutD_hit b h3]
    · simp; omega
    · simp

abbrev rV (a b : Int) (ok : Bool) : Value := .tuple #[.agg #[.int .i64 a, .int .i64 b], .bool ok]
theorem readPlace_is {s : ByteArray} {n : Nat} {b : Bool} (w : World) (hs : s.size ≤ 4611686018427387904) (hn : Hid (place (bs s) = n)) (hb : Hid (decide (n ≠ 0) = b)) :
    Calls Tryz.prog 81 #[.string s] w fun e w' => e = .returned (.tuple #[.int .i64 (n : Int), .bool b]) ∧ w' = w := by
  have := readPlace_any s w hs
  unfold placeV at this
  rw [unhide hn, unhide hb] at this
  exact this

set_option maxHeartbeats 400000 in
theorem readOne_is {s : ByteArray} {n : Nat} {b : Bool} (w : World) (hs : s.size ≤ 4611686018427387904) (hn : Hid (place (bs s) = n)) (hb : Hid (decide (n ≠ 0) = b)) :
    Calls Tryz.prog 51 #[.string s] w fun e w' => e = .returned (rV n n b) ∧ Below w.heap.size w w' := by
  go_enter Tryz.func51, Tryz.ntmps51
  go_wp2_with (go_at_call 81; refine (readPlace_is _ hs hn hb).mono ?_; rintro e w' ⟨rfl, rfl⟩)
  exact bodyPost_ret (v := .tuple #[.agg #[.int .i64 n, .int .i64 n], .bool b]) (by simp [results, Tryz.results51, go_sem]) rfl ⟨rfl, by repeat (first | exact Below.refl _ _ | apply Below.setCell | apply Below.alloc | simp)⟩
set_option maxHeartbeats 400000 in
theorem readFrom_is {s d : ByteArray} {n : Nat} {o b : Bool} (w : World) (hs : s.size ≤ 4611686018427387904) (hd : Hid (bs d = Lib.trimSuffix (bs s) [45])) (hds : d.size ≤ s.size) (ho : Hid (Lib.hasSuffix (bs s) [45] = o)) (hn : Hid (place (bs d) = n)) (hb : Hid (decide (n ≠ 0) = b)) :
    Calls Tryz.prog 53 #[.string s] w fun e w' => e = .returned (rV n 0 (o && b)) ∧ Below w.heap.size w w' := by
  have C : ∀ w, Calls Tryz.prog 83 #[.string s, .string { data := #[45] }] w fun e w' => e = .returned (.tuple #[.string d, .bool o]) ∧ w' = w := fun w => by
    have := Tryz.strings_CutSuffix s { data := #[45] } w (by omega)
    rw [show Lib.hasSuffix s.data.toList ({ data := #[45] } : ByteArray).data.toList = o from unhide ho, show Lib.trimSuffix s.data.toList ({ data := #[45] } : ByteArray).data.toList = bs d from (unhide hd).symm] at this
    exact this
  have HC := hide C
  clear C hd ho
  cases o
  all_goals
    go_enter Tryz.func53, Tryz.ntmps53
    go_wp2_with (first | (go_at_call 83; refine (unhide HC _).mono ?_; rintro e w' ⟨rfl, rfl⟩) | (go_at_call 81; refine (readPlace_is _ (by omega) hn hb).mono ?_; rintro e w' ⟨rfl, rfl⟩))
    exact bodyPost_ret (v := .tuple #[.agg #[.int .i64 n, .int .i64 0], .bool _]) (by simp [results, Tryz.results53, go_sem]; rfl) rfl ⟨by simp [rV], by repeat (first | exact Below.refl _ _ | apply Below.setCell | apply Below.alloc | simp)⟩

set_option maxHeartbeats 400000 in
theorem readTo_is {s d : ByteArray} {n : Nat} {o b : Bool} (w : World) (hs : s.size ≤ 4611686018427387904) (hd : Hid (bs d = Lib.trimPrefix (bs s) [45])) (hds : d.size ≤ s.size) (ho : Hid (Lib.hasPrefix (bs s) [45] = o)) (hn : Hid (place (bs d) = n)) (hb : Hid (decide (n ≠ 0) = b)) :
    Calls Tryz.prog 54 #[.string s] w fun e w' => e = .returned (rV 1 n (o && b)) ∧ Below w.heap.size w w' := by
  have C : ∀ w, Calls Tryz.prog 84 #[.string s, .string { data := #[45] }] w fun e w' => e = .returned (.tuple #[.string d, .bool o]) ∧ w' = w := fun w => by
    have := Tryz.strings_CutPrefix s { data := #[45] } w
    rw [show Lib.hasPrefix s.data.toList ({ data := #[45] } : ByteArray).data.toList = o from unhide ho, show Lib.trimPrefix s.data.toList ({ data := #[45] } : ByteArray).data.toList = bs d from (unhide hd).symm] at this
    exact this
  have HC := hide C
  clear C hd ho
  cases o
  all_goals
    go_enter Tryz.func54, Tryz.ntmps54
    go_wp2_with (first | (go_at_call 84; refine (unhide HC _).mono ?_; rintro e w' ⟨rfl, rfl⟩) | (go_at_call 81; refine (readPlace_is _ (by omega) hn hb).mono ?_; rintro e w' ⟨rfl, rfl⟩))
    exact bodyPost_ret (v := .tuple #[.agg #[.int .i64 1, .int .i64 n], .bool _]) (by simp [results, Tryz.results54, go_sem]; rfl) rfl ⟨by simp [rV], by repeat (first | exact Below.refl _ _ | apply Below.setCell | apply Below.alloc | simp)⟩
set_option maxHeartbeats 400000 in
theorem readBoth_is {s : ByteArray} {n m : Nat} {b c d : Bool} (w : World) (hs : s.size ≤ 4611686018427387904) (hn : Hid (place (cutL (bs s)) = n)) (hm : Hid (place (cutR (bs s)) = m)) (hb : Hid (decide (n ≠ 0) = b)) (hc : Hid (decide (m ≠ 0) = c)) (hd : decide (n ≤ m) = d) :
    Calls Tryz.prog 52 #[.string s] w fun e w' => e = .returned (rV n m ((b && c) && d)) ∧ Below w.heap.size w w' := by
  cases b <;> cases c
  all_goals
    go_enter Tryz.func52, Tryz.ntmps52
    go_wp2_with fail
    refine (cut_any s _ hs).mono ?_
    rintro e w1 ⟨⟨l, r, f, hl, hr, hls, hrs, rfl⟩, q, rfl⟩
    have hn1 : Hid (place (bs l) = n) := by rw [hl]; exact hn
    have hm1 : Hid (place (bs r) = m) := by rw [hr]; exact hm
    clear hl hr hn hm
    go_wp2_with fail
    refine (readPlace_is _ (by omega) hn1 hb).mono ?_
    rintro e w2 ⟨rfl, rfl⟩
    go_wp2_with fail
    refine (readPlace_is _ (by omega) hm1 hc).mono ?_
    rintro e w2 ⟨rfl, rfl⟩
    go_wp2_with fail
    exact bodyPost_ret (v := .tuple #[.agg #[.int .i64 n, .int .i64 m], .bool _]) (by simp [results, Tryz.results52, go_sem]; rfl) rfl ⟨by first | (simp [rV]; done) | simp [rV, hd], by repeat (first | exact Below.refl _ _ | apply Below.setCell | apply Below.alloc | apply below_drewN | simp)⟩
end Go.Proofs.YtijoemamnkhhnaaGreatDoor.Ls
