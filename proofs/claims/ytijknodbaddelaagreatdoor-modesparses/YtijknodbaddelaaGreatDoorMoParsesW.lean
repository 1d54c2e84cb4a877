/- The law ModesParses: walked. -/
import Derived.Test.YtijknodbaddelaaGreatDoorBookC
import Derived.Test.YtijknodbaddelaaGreatDoorMoRefE
import Derived.Test.YtijknodbaddelaaGreatDoorMoSame
import Derived.Test.YtijknodbaddelaaGreatDoorBeyond
namespace Go.Proofs.YtijknodbaddelaaGreatDoor.Mo
open Go.RowKit Go.Shelf

abbrev Row (B : Nat) (v : Value) (l : List Ch) (w : World) : Prop := w.ownsRow B 54 5 v l.length (cl l)
theorem same_rows {b1 b2 : Nat} {v1 v2 : Value} {l : List Ch} {w : World} (h1 : Row b1 v1 l w) (h2 : Row b2 v2 l w) (hn : l.length ≤ 4611686018427387904) :
    Calls Tryz.prog 9 #[v1, v2] w fun e w' => e = .returned (.bool true) ∧ Below w.heap.size w w' := by
  obtain ⟨a1, c1, rfl, f1⟩ := cg_of_owns h1
  obtain ⟨a2, c2, rfl, f2⟩ := cg_of_owns h2
  exact same_any a1 a2 l.length c1 c2 c1 c2 l w hn f1 f2
/-- a row that was there, and one that lies above all that was there -/
theorem aloof {w w' : World} {B1 B2 : Nat} {v1 v2 : Value} {l1 l2 : List Ch} (h1 : Row B1 v1 l1 w) (h2 : Row B2 v2 l2 w') (h : w.heap.size ≤ B2) : ∀ k, v1.ownBlock = some k → v2.ownBlock = some k → False := by
  intro k k1 k2
  have := (Bk.own_block h1 k k1).1
  have := Bk.own_lo h2 k k2
  omega
theorem two_given {B : Nat} {l : List Ch} {a b : Value} {w : World} (h1 : Row B a l w) (h2 : Row B b l w) (hA : ∀ k, a.ownBlock = some k → b.ownBlock = some k → False) (hl : l.length ≤ 4194304) :
    Bk.Given B 54 5 [⟨a, 1, l.length, cl l⟩, ⟨b, 2, l.length, cl l⟩] w := by
  refine ⟨?_, ?_⟩
  · intro x hx
    simp only [List.mem_cons, List.not_mem_nil, or_false] at hx
    rcases hx with rfl | rfl
    · exact ⟨h1, by simp, hl⟩
    · exact ⟨h2, by simp, hl⟩
  · refine List.Pairwise.cons ?_ (List.Pairwise.cons ?_ List.Pairwise.nil)
    · intro x hx
      simp only [List.mem_cons, List.not_mem_nil, or_false] at hx
      subst hx
      exact hA
    · intro x hx
      cases hx
theorem parseL_len (s : Bs) : (parseL s).length ≤ 4097 := by
  by_cases h : 4096 < s.length
  · rw [(parse_long h).1]; simp
  · cases hp : parse s with
    | none => rw [(parse_none (by omega) hp).1]; simp
    | some l =>
      rw [(parse_some (by omega) hp).1]
      unfold parse at hp
      cases hr : readP s with
      | some m => rw [hr] at hp; injection hp with hp; subst hp; simp [octL]
      | none => rw [hr] at hp; have := all_len hp; omega

set_option maxHeartbeats 1000000 in
set_option maxRecDepth 100000 in
theorem parses_walk (s : ByteArray) (w : World) (hs : s.size ≤ 4611686018427387900) :
    Calls Tryz.prog 3 #[.string s] w fun e w' => e = .returned (.bool true) ∧ Below w.heap.size w w' := by
  go_enter Tryz.func3, Tryz.ntmps3
  go_wp2_with fail
  refine (Beyond.beyond_one (s.size : Int) w.heap.size _ (by simp) (by omega) (by omega)).mono ?_
  rintro e w' ⟨rfl, rfl⟩
  have hB1 : Below w.heap.size w (w.alloc (.cells #[.int .i64 s.size] 3)) := (Below.refl _ _).alloc (Nat.le_refl _) _
  generalize (w.alloc (.cells #[.int .i64 s.size] 3)) = w1 at *
  by_cases hb : 1048576 < (s.size : Int)
  · go_wp2_with fail
    go_ret
    exact ⟨rfl, hB1⟩
  · have hLl := parseL_len (bs s)
    have C1 : Hid (∀ W, Calls Tryz.prog 5 #[.string s] W fun e w' => ∃ v, e = .returned (.tuple #[v, .int .i64 (parseE (bs s))]) ∧ Row W.heap.size v (parseL (bs s)) w' ∧ Below W.heap.size W w') := fun W => parse_any s W (by omega)
    have C2 : Hid (∀ W, Calls Tryz.prog 6 #[.string s] W fun e w' => ∃ v, e = .returned (.tuple #[v, .int .i64 (parseE (bs s))]) ∧ Row W.heap.size v (parseL (bs s)) w' ∧ Below W.heap.size W w') := fun W => rparse_any s W (by omega)
    generalize parseE (bs s) = E at *
    generalize parseL (bs s) = L at *
    have N1 := hide hB1.size
    go_wp2_with fail
    refine (unhide C1 _).mono ?_
    rintro e w2 ⟨va, rfl, ra, hb2⟩
    have HB2 : Hid (Below w.heap.size w w2) := hB1.trans (hb2.mono hB1.size)
    have HA2 := hide ra
    have N2 := hide hb2.size
    clear hB1 ra hb2
    go_wp2_with fail
    refine (unhide C1 _).mono ?_
    rintro e w3 ⟨vb, rfl, rb, hb3⟩
    have HB3 : Hid (Below w.heap.size w w3) := (unhide HB2).trans (hb3.mono (unhide HB2).size)
    have Aab := hide (aloof (unhide HA2) rb (Nat.le_refl _))
    have HA3 : Hid (Row w.heap.size va L w3) := own_base (own_below (unhide HA2) hb3) (unhide N1)
    have HBb3 : Hid (Row w.heap.size vb L w3) := own_base rb (Nat.le_trans (unhide N1) (unhide N2))
    clear HB2 HA2 rb hb3 N1 N2
    go_wp2_with fail
    refine (unhide C2 _).mono ?_
    rintro e w4 ⟨vx, rfl, rx, hb4⟩
    have HB4 : Hid (Below w.heap.size w w4) := (unhide HB3).trans (hb4.mono (unhide HB3).size)
    have HA4 := hide (own_below (unhide HA3) hb4)
    have HBb4 := hide (own_below (unhide HBb3) hb4)
    have HX4 := hide rx
    clear HB3 HA3 HBb3 rx hb4 C1 C2
    have C3 : Hid (∀ W, Calls Tryz.prog 7 #[.string s] W fun e w' => e = .returned (readV (readP (bs s))) ∧ Below W.heap.size W w') := fun W => read_any s W (by omega)
    have C4 : Hid (∀ W, Calls Tryz.prog 8 #[.string s] W fun e w' => e = .returned (readV (readP (bs s))) ∧ w' = W) := fun W => rread_any s W (by omega)
    obtain ⟨rn, rb, hrv⟩ : ∃ (n : Int) (b : Bool), readV (readP (bs s)) = .tuple #[.int .i64 n, .bool b] := by
      cases readP (bs s) with
      | none => exact ⟨_, _, rfl⟩
      | some m => exact ⟨_, _, rfl⟩
    rw [hrv] at C3 C4
    clear hrv
    go_wp2_with fail
    refine (unhide C3 _).mono ?_
    rintro e w4' ⟨rfl, hb4⟩
    have HB4' : Hid (Below w.heap.size w w4') := (unhide HB4).trans (hb4.mono (unhide HB4).size)
    have HA4' := hide (own_below (unhide HA4) hb4)
    have HBb4' := hide (own_below (unhide HBb4) hb4)
    have HX4' := hide (own_below (unhide HX4) hb4)
    clear HB4 HA4 HBb4 HX4 hb4 C3
    go_wp2_with fail
    refine (unhide C4 _).mono ?_
    rintro e w4'' ⟨rfl, rfl⟩
    clear C4
    go_wp2_with fail
    refine (same_rows (unhide HA4') (unhide HX4') (by omega)).mono ?_
    rintro e w5 ⟨rfl, hb5⟩
    have HB5 : Hid (Below w.heap.size w w5) := (unhide HB4').trans (hb5.mono (unhide HB4').size)
    have HA5 := hide (own_below (unhide HA4') hb5)
    have HBb5 := hide (own_below (unhide HBb4') hb5)
    have HX5 := hide (own_below (unhide HX4') hb5)
    clear HB4' HA4' HBb4' HX4' hb5
    go_wp2_with fail
    refine (same_rows (unhide HBb5) (unhide HX5) (by omega)).mono ?_
    rintro e w9 ⟨rfl, hb9⟩
    have HB9 : Hid (Below w.heap.size w w9) := (unhide HB5).trans (hb9.mono (unhide HB5).size)
    have HA9 := hide (own_below (unhide HA5) hb9)
    have HBb9 := hide (own_below (unhide HBb5) hb9)
    clear HB5 HA5 HBb5 HX5 hb9
    go_wp2_with fail
    obtain ⟨P, hP⟩ : ∃ P, P = w9.heap.size := ⟨_, rfl⟩
    rw [← hP]
    have hs9 := (unhide HB9).size
    obtain ⟨w10, hw10⟩ : ∃ W, W = w9.alloc (Obj.cells #[Value.int IntKind.i64 0, Value.slice none 0 0, Value.slice none 0 0, Value.slice none 0 0, Value.slice none 0 0, Value.slice none 0 0, Value.slice none 0 0, Value.slice none 0 0, Value.slice none 0 0, Value.slice none 0 0, Value.slice none 0 0, Value.slice none 0 0, Value.slice none 0 0] 43) := ⟨_, rfl⟩
    rw [← hw10]
    have hO := Bk.own_new w9 P hP
    rw [← hw10] at hO
    have hb10 : Below w9.heap.size w9 w10 := by rw [hw10]; exact (Below.refl _ _).alloc (Nat.le_refl _) _
    have HA10 := hide (own_below (unhide HA9) hb10)
    have HBb10 := hide (own_below (unhide HBb9) hb10)
    have HB10 : Hid (Below w.heap.size w w10) := (unhide HB9).trans (hb10.mono hs9)
    have hBk : Bk.BC w.heap.size P 0 [] w10 := Bk.BC.start hO (by omega) (unhide HB10).size
    have C11 := hide (Bk.changes_step w.heap.size P 0 [] w10 hBk va L.length (cl L) _ 5 (unhide HA10) (by omega) (by simp))
    clear hO hw10 hP hb10 HB9 HA9 HBb9 hBk
    go_wp2_with fail
    refine (unhide C11).mono ?_
    rintro e w11 ⟨rfl, hBk11, hk11⟩
    have HB11 : Hid (Below w.heap.size w w11) := (unhide HB10).trans (hk11.below (unhide HB10).size)
    have HA11 := hide (hk11.own (unhide HA10) (by decide))
    have HBb11 := hide (hk11.own (unhide HBb10) (by decide))
    have C12 := hide (Bk.changes_step w.heap.size P (0 + 1) _ w11 hBk11 vb L.length (cl L) _ 5 (unhide HBb11) (by omega) (by simp))
    clear C11 hBk11 hk11 HB10 HA10 HBb10
    go_wp2_with fail
    refine (unhide C12).mono ?_
    rintro e w12 ⟨rfl, hBk12, hk12⟩
    have HB12 : Hid (Below w.heap.size w w12) := (unhide HB11).trans (hk12.below (unhide HB11).size)
    have HA12 := hide (hk12.own (unhide HA11) (by decide))
    have HBb12 := hide (hk12.own (unhide HBb11) (by decide))
    have C13 := hide (Bk.apart_step w.heap.size P _ _ w12 hBk12 (two_given (unhide HA12) (unhide HBb12) (unhide Aab) (by omega)) (by simp))
    clear C12 hBk12 hk12 HB11 HA11 HBb11
    go_wp2_with fail
    refine (unhide C13).mono ?_
    rintro e w13 ⟨rfl, hb13⟩
    go_wp2_with fail
    go_ret
    exact ⟨rfl, (unhide HB12).trans hb13⟩
end Go.Proofs.YtijknodbaddelaaGreatDoor.Mo
