/- The law LinesSplits's walk. -/
import Derived.Test.YtbamldjifempfaaDoorBookTF
import Derived.Test.YtbamldjifempfaaDoorLnRefSplit
import Derived.Test.YtbamldjifempfaaDoorBeyond
namespace Go.Proofs.YtbamldjifempfaaDoor.Ln
open Go.RowKit Go.Shelf Pa

abbrev Row (B : Nat) (v : Value) (ss : List ByteArray) (w : World) : Prop := w.ownsRow B 9 1 v ss.length (ss.map Value.string)
theorem Row.below {B : Nat} {v : Value} {ss : List ByteArray} {w w' : World} (h : Row B v ss w) (hb : Below w.heap.size w w') : Row B v ss w' :=
  h.kept (row := none) ⟨hb.os, hb.tape, hb.output, hb.size, fun k hk _ => hb.block k hk⟩ (by cases v.ownBlock <;> simp)
def LB (s : ByteArray) : List ByteArray := (parts isEnd s.data.toList).map fun q => bt q.1
def FB (sep : Nat) (s : ByteArray) : List ByteArray := (fieldsL sep s.data.toList).map bt
theorem row_of {B n : Nat} {v : Value} {xs : List Value} {w : World} {ss : List ByteArray} (h : w.ownsRow B 9 1 v n xs) (hn : n = ss.length) (hx : xs = ss.map Value.string) : Row B v ss w := by
  subst hn hx; exact h
theorem split_row (s : ByteArray) (w : World) (hs : s.size ≤ 1073741824) :
    Calls Tryd.prog 5 #[.string s] w fun e w' => ∃ v, e = .returned (.tuple #[v, .bool (lastB (parts isEnd s.data.toList))]) ∧ Row w.heap.size v (LB s) w' ∧ Below w.heap.size w w' :=
  (split_any s w hs).mono fun _ _ ⟨v, h1, h2, h3⟩ => ⟨v, h1, row_of h2 (by simp [LB]) (by simp [LB, strs]), h3⟩
theorem refSplit_row (s : ByteArray) (w : World) (hs : s.size ≤ 1073741824) :
    Calls Tryd.prog 7 #[.string s] w fun e w' => ∃ v, e = .returned (.tuple #[v, .bool (lastB (parts isEnd s.data.toList))]) ∧ Row w.heap.size v (LB s) w' ∧ Below w.heap.size w w' :=
  (refSplit_any s w hs).mono fun _ _ ⟨v, h1, h2, h3⟩ => ⟨v, h1, row_of h2 (by simp [LB]) (by simp [LB, strs]), h3⟩
theorem fields_row (s : ByteArray) (sep : Nat) (w : World) (hs : s.size ≤ 1073741824) (hsep : sep < 256) :
    Calls Tryd.prog 6 #[.string s, .int .u8 sep] w fun e w' => ∃ v, e = .returned v ∧ Row w.heap.size v (FB sep s) w' ∧ Below w.heap.size w w' :=
  (fields_any s sep w hs hsep).mono fun _ _ ⟨v, h1, h2, h3⟩ => ⟨v, h1, row_of h2 (by simp [FB]) (by simp [FB, strs1]), h3⟩
theorem refFields_row (s : ByteArray) (sep : Nat) (w : World) (hs : s.size ≤ 1073741000) :
    Calls Tryd.prog 8 #[.string s, .int .u8 sep] w fun e w' => ∃ v, e = .returned v ∧ Row w.heap.size v (FB sep s) w' ∧ Below w.heap.size w w' :=
  (refFields_any s sep w hs).mono fun _ _ ⟨v, h1, h2, h3⟩ => ⟨v, h1, row_of h2 (by simp [FB]) (by simp [FB, strs1]), h3⟩
theorem same_rows {b1 b2 : Nat} {v1 v2 : Value} {ss : List ByteArray} {w : World} (h1 : Row b1 v1 ss w) (h2 : Row b2 v2 ss w) (hn : ss.length ≤ 4611686018427387904) :
    Calls Tryd.prog 9 #[v1, v2] w fun e w' => e = .returned (.bool true) ∧ Below w.heap.size w w' := by
  obtain ⟨a1, c1, rfl, f1⟩ := tx_of_owns h1
  obtain ⟨a2, c2, rfl, f2⟩ := tx_of_owns h2
  exact sameTexts_any a1 a2 ss.length c1 c2 c1 c2 ss w hn f1 f2

/-- a row that was there, and one that lies above all that was there -/
theorem aloof {w w' : World} {B1 B2 : Nat} {v1 v2 : Value} {s1 s2 : List ByteArray} (h1 : Row B1 v1 s1 w) (h2 : Row B2 v2 s2 w') (h : w.heap.size ≤ B2) : ∀ k, v1.ownBlock = some k → v2.ownBlock = some k → False := by
  intro k k1 k2
  have := (Bk.own_block h1 k k1).1
  have := Bk.own_lo h2 k k2
  omega
/-- the four lists that the Book is given -/
structure Four (B : Nat) (L F : List ByteArray) (a b c d : Value) (w : World) : Prop where
  a : Row B a L w
  b : Row B b L w
  c : Row B c F w
  d : Row B d F w
theorem Four.below {B : Nat} {L F : List ByteArray} {a b c d : Value} {w w' : World} (h : Four B L F a b c d w) (hb : Below w.heap.size w w') : Four B L F a b c d w' :=
  ⟨h.a.below hb, h.b.below hb, h.c.below hb, h.d.below hb⟩
theorem Four.kp {B : Nat} {L F : List ByteArray} {a b c d : Value} {w w' : World} (h : Four B L F a b c d w) (hb : Bk.Kp B w w') : Four B L F a b c d w' :=
  ⟨hb.text h.a, hb.text h.b, hb.text h.c, hb.text h.d⟩
structure Aloof4 (a b c d : Value) : Prop where
  ab : ∀ k, a.ownBlock = some k → b.ownBlock = some k → False
  ac : ∀ k, a.ownBlock = some k → c.ownBlock = some k → False
  ad : ∀ k, a.ownBlock = some k → d.ownBlock = some k → False
  bc : ∀ k, b.ownBlock = some k → c.ownBlock = some k → False
  bd : ∀ k, b.ownBlock = some k → d.ownBlock = some k → False
  cd : ∀ k, c.ownBlock = some k → d.ownBlock = some k → False
theorem Four.texts {B : Nat} {L F : List ByteArray} {a b c d : Value} {w : World} (h : Four B L F a b c d w) (hA : Aloof4 a b c d) (hl : L.length ≤ 4194304) (hf : F.length ≤ 4194304) :
    Bk.Given B 9 1 [⟨a, 1, L.length, L.map Value.string⟩, ⟨b, 2, L.length, L.map Value.string⟩, ⟨c, 3, F.length, F.map Value.string⟩, ⟨d, 4, F.length, F.map Value.string⟩] w := by
  refine ⟨?_, ?_⟩
  · intro x hx
    simp only [List.mem_cons, List.not_mem_nil, or_false] at hx
    rcases hx with rfl | rfl | rfl | rfl
    · exact ⟨h.a, by simp, hl⟩
    · exact ⟨h.b, by simp, hl⟩
    · exact ⟨h.c, by simp, hf⟩
    · exact ⟨h.d, by simp, hf⟩
  · refine List.Pairwise.cons ?_ (List.Pairwise.cons ?_ (List.Pairwise.cons ?_ (List.Pairwise.cons ?_ List.Pairwise.nil)))
    · intro x hx
      simp only [List.mem_cons, List.not_mem_nil, or_false] at hx
      rcases hx with rfl | rfl | rfl
      · exact hA.ab
      · exact hA.ac
      · exact hA.ad
    · intro x hx
      simp only [List.mem_cons, List.not_mem_nil, or_false] at hx
      rcases hx with rfl | rfl
      · exact hA.bc
      · exact hA.bd
    · intro x hx
      simp only [List.mem_cons, List.not_mem_nil, or_false] at hx
      subst hx
      exact hA.cd
    · intro x hx
      cases hx
theorem no_flags (B : Nat) (w : World) : Bk.Given B 82 2 [] w := ⟨(fun x hx => by simp at hx), List.Pairwise.nil⟩
theorem LB_len (s : ByteArray) : (LB s).length ≤ s.size := by unfold LB; rw [List.length_map]; exact parts_len _ _
theorem FB_len (sep : Nat) (s : ByteArray) : (FB sep s).length ≤ s.size + 1 := by
  have h2 : s.data.toList.length = s.size := rfl
  unfold FB fieldsL
  rw [List.length_map]
  split
  · have := runsOf_len' (parts isBlank s.data.toList)
    have := parts_len isBlank s.data.toList
    omega
  · rw [List.length_append, List.length_map]
    have h1 := parts_len (isSep sep) s.data.toList
    have h3 : (if lastT (parts (isSep sep) s.data.toList) = true then [([] : List UInt8)] else []).length ≤ 1 := by split <;> simp
    omega

set_option maxHeartbeats 2000000 in
set_option maxRecDepth 100000 in
theorem linesSplits_any (s : ByteArray) (sep : Nat) (w : World) (hs : s.size ≤ 4611686018427387900) (hsep : sep < 256) :
    Calls Tryd.prog 3 #[.string s, .int .u8 sep] w fun e w' => e = .returned (.bool true) ∧ Below w.heap.size w w' := by
  go_enter Tryd.func3, Tryd.ntmps3
  go_wp2_with fail
  refine (Beyond.beyond_one (s.size : Int) w.heap.size _ (by simp) (by omega) (by omega)).mono ?_
  rintro e w' ⟨rfl, rfl⟩
  have hB1 : Below w.heap.size w (w.alloc (.cells #[.int .i64 s.size] 3)) := (Below.refl _ _).alloc (Nat.le_refl _) _
  generalize (w.alloc (.cells #[.int .i64 s.size] 3)) = w1 at *
  by_cases hb : 1048576 < (s.size : Int)
  · go_wp2_with fail
    go_ret
    exact ⟨rfl, hB1⟩
  · have hLl := LB_len s
    have hFl := FB_len sep s
    have C1 : Hid (∀ W, Calls Tryd.prog 5 #[.string s] W fun e w' => ∃ v, e = .returned (.tuple #[v, .bool (lastB (parts isEnd s.data.toList))]) ∧ Row W.heap.size v (LB s) w' ∧ Below W.heap.size W w') := fun W => split_row s W (by omega)
    have C2 : Hid (∀ W, Calls Tryd.prog 6 #[.string s, .int .u8 sep] W fun e w' => ∃ v, e = .returned v ∧ Row W.heap.size v (FB sep s) w' ∧ Below W.heap.size W w') := fun W => fields_row s sep W (by omega) hsep
    have C3 : Hid (∀ W, Calls Tryd.prog 7 #[.string s] W fun e w' => ∃ v, e = .returned (.tuple #[v, .bool (lastB (parts isEnd s.data.toList))]) ∧ Row W.heap.size v (LB s) w' ∧ Below W.heap.size W w') := fun W => refSplit_row s W (by omega)
    have C4 : Hid (∀ W, Calls Tryd.prog 8 #[.string s, .int .u8 sep] W fun e w' => ∃ v, e = .returned v ∧ Row W.heap.size v (FB sep s) w' ∧ Below W.heap.size W w') := fun W => refFields_row s sep W (by omega)
    generalize lastB (parts isEnd s.data.toList) = lb at *
    generalize LB s = L at *
    generalize FB sep s = F at *
    have N1 := hide hB1.size
    go_wp2_with fail
    refine (unhide C1 _).mono ?_
    rintro e w2 ⟨va, rfl, ra, hb2⟩
    have HB2 : Hid (Below w.heap.size w w2) := hB1.trans (hb2.mono hB1.size)
    have HA2 := hide ra
    have N2 := hide hb2.size
    clear hB1 ra hb2
    go_wp2_with fail
    refine (unhide C1 _).mono ?_
    rintro e w3 ⟨vb, rfl, rb, hb3⟩
    have HB3 : Hid (Below w.heap.size w w3) := (unhide HB2).trans (hb3.mono (unhide HB2).size)
    have HA3 := hide ((unhide HA2).below hb3)
    have Aab := hide (aloof (unhide HA2) rb (Nat.le_refl _))
    have HBb3 := hide rb
    have N3 := hide hb3.size
    clear HB2 HA2 rb hb3
    go_wp2_with fail
    refine (unhide C2 _).mono ?_
    rintro e w4 ⟨vc, rfl, rc, hb4⟩
    have HB4 : Hid (Below w.heap.size w w4) := (unhide HB3).trans (hb4.mono (unhide HB3).size)
    have HA4 := hide ((unhide HA3).below hb4)
    have HBb4 := hide ((unhide HBb3).below hb4)
    have Aac := hide (aloof (unhide HA3) rc (Nat.le_refl _))
    have Abc := hide (aloof (unhide HBb3) rc (Nat.le_refl _))
    have HC4 := hide rc
    have N4 := hide hb4.size
    clear HB3 HA3 HBb3 rc hb4
    go_wp2_with fail
    refine (unhide C2 _).mono ?_
    rintro e w5 ⟨vd, rfl, rd, hb5⟩
    have HB5 : Hid (Below w.heap.size w w5) := (unhide HB4).trans (hb5.mono (unhide HB4).size)
    have HAL : Hid (Aloof4 va vb vc vd) := ⟨unhide Aab, unhide Aac, aloof (unhide HA4) rd (Nat.le_refl _), unhide Abc, aloof (unhide HBb4) rd (Nat.le_refl _), aloof (unhide HC4) rd (Nat.le_refl _)⟩
    have HF5 : Hid (Four w.heap.size L F va vb vc vd w5) := by
      have n1 := unhide N1
      have n2 := unhide N2
      have n3 := unhide N3
      have n4 := unhide N4
      exact ⟨Bk.own_base ((unhide HA4).below hb5) (by omega), Bk.own_base ((unhide HBb4).below hb5) (by omega), Bk.own_base ((unhide HC4).below hb5) (by omega), Bk.own_base rd (by omega)⟩
    clear HB4 HA4 HBb4 HC4 Aab Aac Abc rd hb5 N1 N2 N3 N4
    go_wp2_with fail
    refine (unhide C3 _).mono ?_
    rintro e w6 ⟨vx, rfl, rx, hb6⟩
    have HB6 : Hid (Below w.heap.size w w6) := (unhide HB5).trans (hb6.mono (unhide HB5).size)
    have HF6 := hide ((unhide HF5).below hb6)
    have HX6 := hide rx
    clear HB5 HF5 rx hb6
    go_wp2_with fail
    refine (unhide C4 _).mono ?_
    rintro e w7 ⟨vy, rfl, ry, hb7⟩
    have HB7 : Hid (Below w.heap.size w w7) := (unhide HB6).trans (hb7.mono (unhide HB6).size)
    have HF7 := hide ((unhide HF6).below hb7)
    have HX7 := hide ((unhide HX6).below hb7)
    have HY7 := hide ry
    clear HB6 HF6 HX6 ry hb7 C1 C2 C3 C4
    go_wp2_with fail
    refine (same_rows (unhide HF7).a (unhide HX7) (by omega)).mono ?_
    rintro e w8 ⟨rfl, hb8⟩
    have HB8 : Hid (Below w.heap.size w w8) := (unhide HB7).trans (hb8.mono (unhide HB7).size)
    have HF8 := hide ((unhide HF7).below hb8)
    have HY8 := hide ((unhide HY7).below hb8)
    clear HB7 HF7 HX7 HY7 hb8
    go_wp2_with fail
    refine (same_rows (unhide HF8).c (unhide HY8) (by omega)).mono ?_
    rintro e w9 ⟨rfl, hb9⟩
    have HB9 : Hid (Below w.heap.size w w9) := (unhide HB8).trans (hb9.mono (unhide HB8).size)
    have HF9 := hide ((unhide HF8).below hb9)
    clear HB8 HF8 HY8 hb9
    go_wp2_with fail
    obtain ⟨P, hP⟩ : ∃ P, P = w9.heap.size := ⟨_, rfl⟩
    rw [← hP]
    have hs9 := (unhide HB9).size
    obtain ⟨w10, hw10⟩ : ∃ W, W = w9.alloc (Obj.cells #[Value.int IntKind.i64 0, Value.slice none 0 0, Value.slice none 0 0, Value.slice none 0 0, Value.slice none 0 0, Value.slice none 0 0, Value.slice none 0 0, Value.slice none 0 0, Value.slice none 0 0, Value.slice none 0 0, Value.slice none 0 0, Value.slice none 0 0, Value.slice none 0 0] 41) := ⟨_, rfl⟩
    rw [← hw10]
    have hO := Bk.own_new w9 P hP
    rw [← hw10] at hO
    have hb10 : Below w9.heap.size w9 w10 := by rw [hw10]; exact (Below.refl _ _).alloc (Nat.le_refl _) _
    have HF10 := hide ((unhide HF9).below hb10)
    have HB10 : Hid (Below w.heap.size w w10) := (unhide HB9).trans (hb10.mono hs9)
    have K0 : Hid (Bk.BTF w.heap.size P 0 [] [] w10) := Bk.BTF.start hO (by omega) (unhide HB10).size
    clear hw10 hO hb10 hP hs9 HF9 HB9
    refine (Bk.texts_step _ _ _ _ _ _ (unhide K0) _ _ _ _ _ (unhide HF10).a (by decide) (by decide)).mono ?_
    rintro e w11 ⟨rfl, k1, hk1⟩
    have K1 := hide k1
    have HF11 := hide ((unhide HF10).kp hk1)
    have HB11 : Hid (Below w.heap.size w w11) := (unhide HB10).trans (hk1.below (unhide HB10).size)
    clear k1 hk1 K0 HF10 HB10
    go_wp2_with fail
    refine (Bk.texts_step _ _ _ _ _ _ (unhide K1) _ _ _ _ _ (unhide HF11).b (by decide) (by simp)).mono ?_
    rintro e w12 ⟨rfl, k1, hk1⟩
    have K2 := hide k1
    have HF12 := hide ((unhide HF11).kp hk1)
    have HB12 : Hid (Below w.heap.size w w12) := (unhide HB11).trans (hk1.below (unhide HB11).size)
    clear k1 hk1 K1 HF11 HB11
    go_wp2_with fail
    refine (Bk.texts_step _ _ _ _ _ _ (unhide K2) _ _ _ _ _ (unhide HF12).c (by decide) (by simp)).mono ?_
    rintro e w13 ⟨rfl, k1, hk1⟩
    have K3 := hide k1
    have HF13 := hide ((unhide HF12).kp hk1)
    have HB13 : Hid (Below w.heap.size w w13) := (unhide HB12).trans (hk1.below (unhide HB12).size)
    clear k1 hk1 K2 HF12 HB12
    go_wp2_with fail
    refine (Bk.texts_step _ _ _ _ _ _ (unhide K3) _ _ _ _ _ (unhide HF13).d (by decide) (by simp)).mono ?_
    rintro e w14 ⟨rfl, k1, hk1⟩
    have K4 := hide k1
    have HF14 := hide ((unhide HF13).kp hk1)
    have HB14 : Hid (Below w.heap.size w w14) := (unhide HB13).trans (hk1.below (unhide HB13).size)
    clear k1 hk1 K3 HF13 HB13
    go_wp2_with fail
    refine (Bk.apart_step _ _ _ _ _ _ (unhide K4) (by exact (unhide HF14).texts (unhide HAL) (by omega) (by omega)) (no_flags _ _) (by simp) (by simp)).mono ?_
    rintro e w15 ⟨rfl, hb15⟩
    have HB15 : Hid (Below w.heap.size w w15) := (unhide HB14).trans hb15
    clear hb15 K4 HF14 HB14
    go_wp2_with fail
    go_ret
    exact ⟨rfl, unhide HB15⟩
theorem linesSplits_int (s : ByteArray) (x : Int) (w : World) (hs : s.size ≤ 4611686018427387900) (h0 : 0 ≤ x) (h1 : x ≤ 255) :
    Calls Tryd.prog 3 #[.string s, .int .u8 x] w fun e w' => e = .returned (.bool true) ∧ Below w.heap.size w w' := by
  obtain ⟨c, rfl⟩ : ∃ c : Nat, x = c := ⟨x.toNat, by omega⟩
  exact linesSplits_any s c w hs (by omega)
end Go.Proofs.YtbamldjifempfaaDoor.Ln
