/- SortsComms returns true. -/
import Derived.Test.YtjfjhpakkflceaaDoorBookTF
import Derived.Test.YtjfjhpakkflceaaDoorBeyond2
import Derived.Test.YtjfjhpakkflceaaDoorTextsSize
import Derived.Test.YtjfjhpakkflceaaDoorSoCm
import Derived.Test.YtjfjhpakkflceaaDoorSoComm
namespace Go.Proofs.YtjfjhpakkflceaaDoor.So
open Go.RowKit Go.Shelf Ky
open Pa (Tx tot TwinT)

attribute [local go_sem] Oper.semAt_some

theorem comm_len (A B : Ls) : (comm A B).1.length ≤ A.length ∧ (comm A B).2.1.length ≤ B.length ∧ (comm A B).2.2.length ≤ A.length := by
  match A, B with
  | [], b => rw [comm_nil]; simp
  | x :: a, [] => rw [comm_nil']; simp
  | x :: a, y :: b =>
    rw [comm_cons]
    have h1 := comm_len a (y :: b)
    have h2 := comm_len (x :: a) b
    have h3 := comm_len a b
    split
    · simp only [List.length_cons] at *; omega
    · split
      · simp only [List.length_cons] at *; omega
      · simp only [List.length_cons] at *; omega
termination_by A.length + B.length

abbrev Row (B : Nat) (v : Value) (L : Ls) (w : World) : Prop := w.ownsRow B 9 1 v L.length (strs L)
theorem Row.below {B : Nat} {v : Value} {L : Ls} {w w' : World} (h : Row B v L w) (hb : Below w.heap.size w w') : Row B v L w' :=
  h.kept (row := none) ⟨hb.os, hb.tape, hb.output, hb.size, fun k hk _ => hb.block k hk⟩ (by cases v.ownBlock <;> simp)
theorem aloof {w w' : World} {B1 B2 : Nat} {v1 v2 : Value} {s1 s2 : Ls} (h1 : Row B1 v1 s1 w) (h2 : Row B2 v2 s2 w') (h : w.heap.size ≤ B2) : Ap v1 v2 := by
  intro k k1 k2
  have := (Bk.own_block h1 k k1).1
  have := Bk.own_lo h2 k k2
  omega
theorem same_rows {b1 b2 : Nat} {v1 v2 : Value} {L : Ls} {w : World} (h1 : Row b1 v1 L w) (h2 : Row b2 v2 L w) (hn : L.length ≤ 4611686018427387904) :
    Calls Tryd.prog 17 #[v1, v2] w fun e w' => e = .returned (.bool true) ∧ Below w.heap.size w w' := by
  obtain ⟨a1, c1, rfl, f1⟩ := Pa.tx_of_owns h1
  obtain ⟨a2, c2, rfl, f2⟩ := Pa.tx_of_owns h2
  exact Pa.sameTexts_any a1 a2 L.length c1 c2 c1 c2 L w hn f1 f2
/-- a twin is a row, and its lines are there -/
theorem twin_row {w : World} {base g n : Nat} {L : Ls} (h : TwinT w base g n L) (hn : L.length = n) : Row base (.slice (some ⟨g, 0, none⟩) n (n + 1)) L w := by
  subst hn; exact h.1
theorem twin_tx {w : World} {base g n : Nat} {L : Ls} (h : TwinT w base g n L) (hn : L.length = n) : Tx w (some ⟨g, 0, none⟩) n (n + 1) L := by
  subst hn
  obtain ⟨x, c, e, t⟩ := Pa.tx_of_owns h.1
  obtain ⟨rfl, -, rfl⟩ := Value.slice.inj e
  exact t
theorem twin_below {w w' : World} {base g n : Nat} {L : Ls} (h : TwinT w base g n L) (hb : Below w.heap.size w w') : TwinT w' base g n L :=
  ⟨h.1.kept (row := none) ⟨hb.os, hb.tape, hb.output, hb.size, fun k hk _ => hb.block k hk⟩ (by cases (Value.slice (some ⟨g, 0, none⟩) n (n + 1)).ownBlock <;> simp), (hb.cell (p := ⟨g, n, none⟩) (World.block_lt_of_cell? w _ h.2)).trans h.2⟩

/-- the five lists that the Book is given -/
structure Five (N : Nat) (A B C D E : Ls) (a b c d e : Value) (w : World) : Prop where
  a : Row N a A w
  b : Row N b B w
  c : Row N c C w
  d : Row N d D w
  e : Row N e E w
theorem Five.below {N : Nat} {A B C D E : Ls} {a b c d e : Value} {w w' : World} (h : Five N A B C D E a b c d e w) (hb : Below w.heap.size w w') : Five N A B C D E a b c d e w' :=
  ⟨h.a.below hb, h.b.below hb, h.c.below hb, h.d.below hb, h.e.below hb⟩
theorem Five.kp {N : Nat} {A B C D E : Ls} {a b c d e : Value} {w w' : World} (h : Five N A B C D E a b c d e w) (hb : Bk.Kp N w w') : Five N A B C D E a b c d e w' :=
  ⟨hb.text h.a, hb.text h.b, hb.text h.c, hb.text h.d, hb.text h.e⟩
structure Aloof5 (a b c d e : Value) : Prop where
  ab : Ap a b
  ac : Ap a c
  ad : Ap a d
  ae : Ap a e
  bc : Ap b c
  bd : Ap b d
  be : Ap b e
  cd : Ap c d
  ce : Ap c e
  de : Ap d e
theorem Five.texts {N : Nat} {A B C D E : Ls} {a b c d e : Value} {w : World} (h : Five N A B C D E a b c d e w) (hA : Aloof5 a b c d e) (h1 : A.length ≤ 4194304) (h2 : B.length ≤ 4194304) (h3 : C.length ≤ 4194304) (h4 : D.length ≤ 4194304) (h5 : E.length ≤ 4194304) :
    Bk.Given N 9 1 [⟨a, 1, A.length, strs A⟩, ⟨b, 2, B.length, strs B⟩, ⟨c, 3, C.length, strs C⟩, ⟨d, 4, D.length, strs D⟩, ⟨e, 5, E.length, strs E⟩] w := by
  refine ⟨?_, ?_⟩
  · intro x hx
    simp only [List.mem_cons, List.not_mem_nil, or_false] at hx
    rcases hx with rfl | rfl | rfl | rfl | rfl
    · exact ⟨h.a, by simp, h1⟩
    · exact ⟨h.b, by simp, h2⟩
    · exact ⟨h.c, by simp, h3⟩
    · exact ⟨h.d, by simp, h4⟩
    · exact ⟨h.e, by simp, h5⟩
  · refine List.Pairwise.cons ?_ (List.Pairwise.cons ?_ (List.Pairwise.cons ?_ (List.Pairwise.cons ?_ (List.Pairwise.cons ?_ List.Pairwise.nil))))
    · intro x hx
      simp only [List.mem_cons, List.not_mem_nil, or_false] at hx
      rcases hx with rfl | rfl | rfl | rfl
      · exact hA.ab
      · exact hA.ac
      · exact hA.ad
      · exact hA.ae
    · intro x hx
      simp only [List.mem_cons, List.not_mem_nil, or_false] at hx
      rcases hx with rfl | rfl | rfl
      · exact hA.bc
      · exact hA.bd
      · exact hA.be
    · intro x hx
      simp only [List.mem_cons, List.not_mem_nil, or_false] at hx
      rcases hx with rfl | rfl
      · exact hA.cd
      · exact hA.ce
    · intro x hx
      simp only [List.mem_cons, List.not_mem_nil, or_false] at hx
      subst hx
      exact hA.de
    · intro x hx
      cases hx
theorem no_flags (B : Nat) (w : World) : Bk.Given B 100 2 [] w := ⟨(fun x hx => by simp at hx), List.Pairwise.nil⟩

set_option maxHeartbeats 2000000 in
set_option maxRecDepth 100000 in
theorem sortsComms_any (A B : Ls) (a b : Option Addr) (la ca lb cb : Nat) (w : World) (hA : Tx w a la ca A) (hB : Tx w b lb cb B) (hla : la ≤ 4611686018427387904) (hlb : lb ≤ 4611686018427387904) (hca : ca ≤ 9223372036854775807) (hcb : cb ≤ 9223372036854775807) (hsA : ∀ s ∈ A, s.size ≤ 4611686018427387904) (hsB : ∀ s ∈ B, s.size ≤ 4611686018427387904) :
    Calls Tryd.prog 5 #[.slice a la ca, .slice b lb cb] w fun e w' => e = .returned (.bool true) ∧ Below w.heap.size w w' := by
  have S1 := hide (Pa.textsSize_any a la ca A w hA hla hsA)
  have S2 := hide (Pa.textsSize_any b lb cb B w hB hlb hsB)
  have TA := hide hA
  have TB := hide hB
  have LA := hide hA.len
  have LB := hide hB.len
  clear hA hB hsA hsB
  go_enter Tryd.func5, Tryd.ntmps5
  go_wp2_with fail
  refine (unhide S1).mono ?_
  rintro e w' ⟨⟨v1, rfl, hv0, hv1, hv2⟩, rfl⟩
  have V1 := hide hv2
  clear hv2 S1
  go_wp2_with fail
  refine (unhide S2).mono ?_
  rintro e w'' ⟨⟨v2, rfl, hu0, hu1, hu2⟩, rfl⟩
  have V2 := hide hu2
  clear hu2 S2
  go_wp2_with fail
  refine (Pa.beyond_two v1 v2 _ _ (by simp) (by simp) (by omega) (by omega) (by omega) (by omega)).mono ?_
  rintro e w1 ⟨rfl, hw1⟩
  have hB1 : Below w''.heap.size w'' w1 := by rw [hw1]; exact (Below.refl _ _).alloc (Nat.le_refl _) _
  clear hw1
  have HB1 := hide hB1
  have N1 := hide hB1.size
  clear hB1
  by_cases hb : 1048576 < v1 + v2
  · go_wp2_with fail
    go_ret
    exact ⟨rfl, unhide HB1⟩
  · have hq1 : la ≤ 1048576 ∧ lb ≤ 1048576 := by
      have := unhide V1 (by omega)
      have := unhide V2 (by omega)
      omega
    obtain ⟨hla', hlb'⟩ := hq1
    clear V1 V2 hv0 hv1 hu0 hu1
    have hcl := comm_len A B
    rw [unhide LA, unhide LB] at hcl
    obtain ⟨hc1, hc2, hc3⟩ := hcl
    have C1 : Hid (∀ W, Below w''.heap.size w'' W → Calls Tryd.prog 7 #[.slice a la ca] W fun e w' => e = .returned (.slice (some ⟨W.heap.size, 0, none⟩) la (la + 1)) ∧ TwinT w' W.heap.size W.heap.size la A ∧ Below W.heap.size W w') := fun W h => Pa.twinTexts_any a la ca A W ((unhide TA).below h) hla'
    have C2 : Hid (∀ W, Below w''.heap.size w'' W → Calls Tryd.prog 7 #[.slice b lb cb] W fun e w' => e = .returned (.slice (some ⟨W.heap.size, 0, none⟩) lb (lb + 1)) ∧ TwinT w' W.heap.size W.heap.size lb B ∧ Below W.heap.size W w') := fun W h => Pa.twinTexts_any b lb cb B W ((unhide TB).below h) hlb'
    have C3 : Hid (∀ W x y, Tx W x la (la + 1) A → Tx W y lb (lb + 1) B → Calls Tryd.prog 15 #[.slice x la (la + 1), .slice y lb (lb + 1)] W fun e w' => ∃ v1 v2 v3, e = .returned (.tuple #[v1, v2, v3]) ∧ R3 w' W.heap.size v1 v2 v3 (comm A B).1 (comm A B).2.1 (comm A B).2.2 ∧ Below W.heap.size W w') := fun W x y h1 h2 => pcomm_any A B x y la (la + 1) lb (lb + 1) W h1 h2 (by omega) (by omega) (by omega)
    have C4 : Hid (∀ W, Below w''.heap.size w'' W → Calls Tryd.prog 16 #[.slice a la ca, .slice b lb cb] W fun e w' => ∃ v1 v2 v3, e = .returned (.tuple #[v1, v2, v3]) ∧ R3 w' W.heap.size v1 v2 v3 (comm A B).1 (comm A B).2.1 (comm A B).2.2 ∧ Below W.heap.size W w') := fun W h => rcomm_any A B a b la ca lb cb W ((unhide TA).below h) ((unhide TB).below h) (by omega) hca hcb
    have C5 : Hid (∀ W g, Below w''.heap.size w'' W → TwinT W g g la A → Calls Tryd.prog 10 #[.slice (some ⟨g, 0, none⟩) la (la + 1), .slice a la ca] W fun e w' => e = .returned (.bool true) ∧ Below W.heap.size W w') := fun W g h t => Pa.leftTexts_any g g a la ca A W ((unhide TA).below h) t hla'
    have C6 : Hid (∀ W g, Below w''.heap.size w'' W → TwinT W g g lb B → Calls Tryd.prog 10 #[.slice (some ⟨g, 0, none⟩) lb (lb + 1), .slice b lb cb] W fun e w' => e = .returned (.bool true) ∧ Below W.heap.size W w') := fun W g h t => Pa.leftTexts_any g g b lb cb B W ((unhide TB).below h) t hlb'
    generalize (comm A B).1 = L1 at *
    generalize (comm A B).2.1 = L2 at *
    generalize (comm A B).2.2 = L3 at *
    clear TA TB
    go_wp2_with fail
    refine (unhide C1 _ (unhide HB1)).mono ?_
    rintro e w2 ⟨rfl, t2, b2⟩
    have HB2 : Hid (Below w''.heap.size w'' w2) := (unhide HB1).trans (b2.mono (unhide N1))
    have N2 := hide b2.size
    have S2 := hide t2
    clear HB1 b2 t2 C1
    go_wp2_with fail
    refine (unhide C2 _ (unhide HB2)).mono ?_
    rintro e w3 ⟨rfl, t3, b3⟩
    have HB3 : Hid (Below w''.heap.size w'' w3) := (unhide HB2).trans (b3.mono (unhide HB2).size)
    have N3 := hide b3.size
    have S3 := hide (twin_below (unhide S2) b3)
    have Aab := hide (aloof (twin_row (unhide S2) (unhide LA)) (twin_row t3 (unhide LB)) (Nat.le_refl _))
    have T3 := hide t3
    clear HB2 b3 t3 C2 S2
    go_wp2_with fail
    refine (unhide C3 _ _ _ (twin_tx (unhide S3) (unhide LA)) (twin_tx (unhide T3) (unhide LB))).mono ?_
    rintro e w4 ⟨vc, vd, ve, rfl, r4, b4⟩
    have HB4 : Hid (Below w''.heap.size w'' w4) := (unhide HB3).trans (b4.mono (unhide HB3).size)
    have S4 := hide (twin_below (unhide S3) b4)
    have T4 := hide (twin_below (unhide T3) b4)
    have HAL : Hid (Aloof5 (.slice (some ⟨w1.heap.size, 0, none⟩) la (la + 1)) (.slice (some ⟨w2.heap.size, 0, none⟩) lb (lb + 1)) vc vd ve) :=
      ⟨unhide Aab, aloof (twin_row (unhide S3) (unhide LA)) r4.o1 (Nat.le_refl _), aloof (twin_row (unhide S3) (unhide LA)) r4.o2 (Nat.le_refl _), aloof (twin_row (unhide S3) (unhide LA)) r4.o3 (Nat.le_refl _),
        aloof (twin_row (unhide T3) (unhide LB)) r4.o1 (Nat.le_refl _), aloof (twin_row (unhide T3) (unhide LB)) r4.o2 (Nat.le_refl _), aloof (twin_row (unhide T3) (unhide LB)) r4.o3 (Nat.le_refl _), r4.a12, r4.a13, r4.a23⟩
    have HF4 : Hid (Five w''.heap.size A B L1 L2 L3 (.slice (some ⟨w1.heap.size, 0, none⟩) la (la + 1)) (.slice (some ⟨w2.heap.size, 0, none⟩) lb (lb + 1)) vc vd ve w4) := by
      have n1 := unhide N1
      have n2 := unhide N2
      have n3 := (unhide HB3).size
      exact ⟨Bk.own_base (twin_row (unhide S4) (unhide LA)) (by omega), Bk.own_base (twin_row (unhide T4) (unhide LB)) (by omega), Bk.own_base r4.o1 (by omega), Bk.own_base r4.o2 (by omega), Bk.own_base r4.o3 (by omega)⟩
    clear HB3 S3 T3 b4 r4 C3 Aab N1 N2 N3
    go_wp2_with fail
    refine (unhide C4 _ (unhide HB4)).mono ?_
    rintro e w5 ⟨vx, vy, vz, rfl, r5, b5⟩
    have HB5 : Hid (Below w''.heap.size w'' w5) := (unhide HB4).trans (b5.mono (unhide HB4).size)
    have S5 := hide (twin_below (unhide S4) b5)
    have T5 := hide (twin_below (unhide T4) b5)
    have HF5 := hide ((unhide HF4).below b5)
    have X5 := hide r5.o1
    have Y5 := hide r5.o2
    have Z5 := hide r5.o3
    clear HB4 S4 T4 HF4 r5 b5 C4
    go_wp2_with fail
    refine (same_rows (unhide HF5).c (unhide X5) (by omega)).mono ?_
    rintro e w6 ⟨rfl, b6⟩
    have HB6 : Hid (Below w''.heap.size w'' w6) := (unhide HB5).trans (b6.mono (unhide HB5).size)
    have S6 := hide (twin_below (unhide S5) b6)
    have T6 := hide (twin_below (unhide T5) b6)
    have HF6 := hide ((unhide HF5).below b6)
    have Y6 := hide (Row.below (unhide Y5) b6)
    have Z6 := hide (Row.below (unhide Z5) b6)
    clear HB5 S5 T5 HF5 X5 Y5 Z5 b6
    go_wp2_with fail
    refine (same_rows (unhide HF6).d (unhide Y6) (by omega)).mono ?_
    rintro e w7 ⟨rfl, b7⟩
    have HB7 : Hid (Below w''.heap.size w'' w7) := (unhide HB6).trans (b7.mono (unhide HB6).size)
    have S7 := hide (twin_below (unhide S6) b7)
    have T7 := hide (twin_below (unhide T6) b7)
    have HF7 := hide ((unhide HF6).below b7)
    have Z7 := hide (Row.below (unhide Z6) b7)
    clear HB6 S6 T6 HF6 Y6 Z6 b7
    go_wp2_with fail
    refine (same_rows (unhide HF7).e (unhide Z7) (by omega)).mono ?_
    rintro e w8 ⟨rfl, b8⟩
    have HB8 : Hid (Below w''.heap.size w'' w8) := (unhide HB7).trans (b8.mono (unhide HB7).size)
    have S8 := hide (twin_below (unhide S7) b8)
    have T8 := hide (twin_below (unhide T7) b8)
    have HF8 := hide ((unhide HF7).below b8)
    clear HB7 S7 T7 HF7 Z7 b8
    go_wp2_with fail
    refine (Calls.mono (unhide C5 _ _ (unhide HB8) (unhide S8)) ?_)
    rintro e w8b ⟨rfl, b9⟩
    have HB9 : Hid (Below w''.heap.size w'' w8b) := (unhide HB8).trans (b9.mono (unhide HB8).size)
    have T9 := hide (twin_below (unhide T8) b9)
    have HF9 := hide ((unhide HF8).below b9)
    clear HB8 S8 T8 HF8 b9 C5
    go_wp2_with fail
    refine (Calls.mono (unhide C6 _ _ (unhide HB9) (unhide T9)) ?_)
    rintro e w9 ⟨rfl, b10⟩
    have HBa : Hid (Below w''.heap.size w'' w9) := (unhide HB9).trans (b10.mono (unhide HB9).size)
    have HFa := hide ((unhide HF9).below b10)
    clear HB9 T9 HF9 b10 C6
    go_wp2_with fail
    obtain ⟨P, hP⟩ : ∃ P, P = w9.heap.size := ⟨_, rfl⟩
    rw [← hP]
    have hs9 := (unhide HBa).size
    obtain ⟨w10, hw10⟩ : ∃ W, W = w9.alloc (Obj.cells #[Value.int IntKind.i64 0, Value.slice none 0 0, Value.slice none 0 0, Value.slice none 0 0, Value.slice none 0 0, Value.slice none 0 0, Value.slice none 0 0, Value.slice none 0 0, Value.slice none 0 0, Value.slice none 0 0, Value.slice none 0 0, Value.slice none 0 0, Value.slice none 0 0] 55) := ⟨_, rfl⟩
    rw [← hw10]
    have hO := Bk.own_new w9 P hP
    rw [← hw10] at hO
    have hb10 : Below w9.heap.size w9 w10 := by rw [hw10]; exact (Below.refl _ _).alloc (Nat.le_refl _) _
    have HF10 := hide ((unhide HFa).below hb10)
    have HB10 : Hid (Below w''.heap.size w'' w10) := (unhide HBa).trans (hb10.mono hs9)
    have K0 : Hid (Bk.BTF w''.heap.size P 0 [] [] w10) := Bk.BTF.start hO (by omega) (unhide HB10).size
    clear hw10 hO hb10 hP hs9 HFa HBa
    refine (Bk.texts_step _ _ _ _ _ _ (unhide K0) _ _ _ _ _ (unhide HF10).a (by decide) (by decide)).mono ?_
    rintro e w11 ⟨rfl, k1, hk1⟩
    have K1 := hide k1
    have HF11 := hide ((unhide HF10).kp hk1)
    have HB11 : Hid (Below w''.heap.size w'' w11) := (unhide HB10).trans (hk1.below (unhide HB10).size)
    clear k1 hk1 K0 HF10 HB10
    go_wp2_with fail
    refine (Bk.texts_step _ _ _ _ _ _ (unhide K1) _ _ _ _ _ (unhide HF11).b (by decide) (by simp)).mono ?_
    rintro e w12 ⟨rfl, k1, hk1⟩
    have K2 := hide k1
    have HF12 := hide ((unhide HF11).kp hk1)
    have HB12 : Hid (Below w''.heap.size w'' w12) := (unhide HB11).trans (hk1.below (unhide HB11).size)
    clear k1 hk1 K1 HF11 HB11
    go_wp2_with fail
    refine (Bk.texts_step _ _ _ _ _ _ (unhide K2) _ _ _ _ _ (unhide HF12).c (by decide) (by simp)).mono ?_
    rintro e w13 ⟨rfl, k1, hk1⟩
    have K3 := hide k1
    have HF13 := hide ((unhide HF12).kp hk1)
    have HB13 : Hid (Below w''.heap.size w'' w13) := (unhide HB12).trans (hk1.below (unhide HB12).size)
    clear k1 hk1 K2 HF12 HB12
    go_wp2_with fail
    refine (Bk.texts_step _ _ _ _ _ _ (unhide K3) _ _ _ _ _ (unhide HF13).d (by decide) (by simp)).mono ?_
    rintro e w14 ⟨rfl, k1, hk1⟩
    have K4 := hide k1
    have HF14 := hide ((unhide HF13).kp hk1)
    have HB14 : Hid (Below w''.heap.size w'' w14) := (unhide HB13).trans (hk1.below (unhide HB13).size)
    clear k1 hk1 K3 HF13 HB13
    go_wp2_with fail
    refine (Bk.texts_step _ _ _ _ _ _ (unhide K4) _ _ _ _ _ (unhide HF14).e (by decide) (by simp)).mono ?_
    rintro e w15 ⟨rfl, k1, hk1⟩
    have K5 := hide k1
    have HF15 := hide ((unhide HF14).kp hk1)
    have HB15 : Hid (Below w''.heap.size w'' w15) := (unhide HB14).trans (hk1.below (unhide HB14).size)
    clear k1 hk1 K4 HF14 HB14
    have la1 := unhide LA
    have lb1 := unhide LB
    go_wp2_with fail
    refine (Bk.apart_step _ _ _ _ _ _ (unhide K5) (by exact (unhide HF15).texts (unhide HAL) (by omega) (by omega) (by omega) (by omega) (by omega)) (no_flags _ _) (by simp) (by simp)).mono ?_
    rintro e w16 ⟨rfl, hb16⟩
    have HB16 : Hid (Below w''.heap.size w'' w16) := (unhide HB15).trans hb16
    clear hb16 K5 HF15 HB15
    go_wp2_with fail
    go_ret
    exact ⟨rfl, unhide HB16⟩
end Go.Proofs.YtjfjhpakkflceaaDoor.So
