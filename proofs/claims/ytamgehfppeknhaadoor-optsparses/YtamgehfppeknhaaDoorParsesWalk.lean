/- What the law OptsParses answers. -/
import Derived.Test.YtamgehfppeknhaaDoorBookTF
import Derived.Test.YtamgehfppeknhaaDoorParseFew
import Derived.Test.YtamgehfppeknhaaDoorTextsSize
import Derived.Test.YtamgehfppeknhaaDoorTwinTexts
import Derived.Test.YtamgehfppeknhaaDoorRefParse
import Derived.Test.YtamgehfppeknhaaDoorParseIs
import Derived.Test.YtamgehfppeknhaaDoorBeyond
namespace Go.Proofs.YtamgehfppeknhaaDoor.Pa
open Go.RowKit

theorem parse_own {which : ByteArray} {ss : List ByteArray} {fl : Fl} {rest : List ByteArray} {er : Int} (hp : parse which ss = (fl, rest, er)) (a : Option Addr) (n cap : Nat) (w : World) (hT : Tx w a n cap ss) (hs : which.size ≤ 4611686018427387900) (hn : n ≤ 4611686018427387900)
    (hss : ∀ s ∈ ss, s.size ≤ maxLen) (htot : tot ss ≤ 4194304) :
    Calls Tryd.prog 7 #[.string which, .slice a n cap] w fun e w' => ∃ vf vt, e = .returned (.tuple #[vf, vt, .int .i64 er]) ∧ w'.ownsRow w.heap.size 59 2 vf fl.length (fcl fl) ∧ w'.ownsRow w.heap.size 9 1 vt rest.length (rest.map Value.string) ∧ Below w.heap.size w w' := by
  refine (parse_any which a n cap ss w hT hs hn hss (fun _ => htot)).mono ?_
  rintro e w' ⟨vf, vt, h1, h2, h3, h4, _⟩
  rw [hp] at h1 h2 h3
  exact ⟨vf, vt, h1, h2, h3, h4⟩
theorem refParse_own {which : ByteArray} {ss : List ByteArray} {fl : Fl} {rest : List ByteArray} {er : Int} (hp : parse which ss = (fl, rest, er)) (a : Option Addr) (n cap : Nat) (w : World) (hT : Tx w a n cap ss) (hs : which.size ≤ 4611686018427387900) (hn : n ≤ 4611686018427387900)
    (htot : tot ss ≤ 4194304) :
    Calls Tryd.prog 8 #[.string which, .slice a n cap] w fun e w' => ∃ vf vt, e = .returned (.tuple #[vf, vt, .int .i64 er]) ∧ w'.ownsRow w.heap.size 59 2 vf fl.length (fcl fl) ∧ w'.ownsRow w.heap.size 9 1 vt rest.length (rest.map Value.string) ∧ Below w.heap.size w w' := by
  refine (refParse_any which a n cap ss w hT hs hn htot).mono ?_
  rintro e w' ⟨vf, vt, h1, h2, h3, h4, _⟩
  rw [hp] at h1 h2 h3
  exact ⟨vf, vt, h1, h2, h3, h4⟩
theorem sameFlags_own {b1 b2 : Nat} {v1 v2 : Value} {fl : Fl} {w : World} (h1 : w.ownsRow b1 59 2 v1 fl.length (fcl fl)) (h2 : w.ownsRow b2 59 2 v2 fl.length (fcl fl)) (hn : fl.length ≤ 4611686018427387904) :
    Calls Tryd.prog 9 #[v1, v2] w fun e w' => e = .returned (.bool true) ∧ Below w.heap.size w w' := by
  obtain ⟨a1, c1, rfl, f1⟩ := fx_of_owns h1
  obtain ⟨a2, c2, rfl, f2⟩ := fx_of_owns h2
  exact sameFlags_any a1 a2 fl.length c1 c2 fl w hn f1 f2
theorem sameTexts_own {b1 b2 : Nat} {v1 v2 : Value} {ss : List ByteArray} {w : World} (h1 : w.ownsRow b1 9 1 v1 ss.length (ss.map Value.string)) (h2 : w.ownsRow b2 9 1 v2 ss.length (ss.map Value.string)) (hn : ss.length ≤ 4611686018427387904) :
    Calls Tryd.prog 10 #[v1, v2] w fun e w' => e = .returned (.bool true) ∧ Below w.heap.size w w' := by
  obtain ⟨a1, c1, rfl, f1⟩ := tx_of_owns h1
  obtain ⟨a2, c2, rfl, f2⟩ := tx_of_owns h2
  exact sameTexts_any a1 a2 ss.length c1 c2 c1 c2 ss w hn f1 f2

theorem TwinT.below {w w' : World} {base g n : Nat} {ss : List ByteArray} (h : TwinT w base g n ss) (hb : Below w.heap.size w w') : TwinT w' base g n ss :=
  ⟨own_below h.1 hb, (hb.cell (World.block_lt_of_cell? _ _ h.2)).trans h.2⟩
theorem TwinT.tx {w : World} {base g n : Nat} {ss : List ByteArray} (h : TwinT w base g n ss) (hl : ss.length = n) : Tx w (some ⟨g, 0, none⟩) n (n + 1) ss := by
  subst hl
  obtain ⟨a, c, e, hx⟩ := tx_of_owns h.1
  cases e
  exact hx
theorem twinTexts_at (a : Option Addr) (len cap : Nat) (ss : List ByteArray) (w : World) (h : Tx w a len cap ss) (hlen : len ≤ 1048576) :
    Calls Tryd.prog 6 #[.slice a len cap] w fun e w' => ∃ g, e = .returned (.slice (some ⟨g, 0, none⟩) len (len + 1)) ∧ TwinT w' w.heap.size g len ss ∧ Below w.heap.size w w' :=
  (twinTexts_any a len cap ss w h hlen).mono fun _ _ ⟨h1, h2, h3⟩ => ⟨_, h1, h2, h3⟩

/-- the five lists that the Book is given: rows at B or above -/
structure Five (B g n : Nat) (ss rest : List ByteArray) (fl : Fl) (a b c d : Value) (w : World) : Prop where
  t : w.ownsRow B 9 1 (.slice (some ⟨g, 0, none⟩) n (n + 1)) n (ss.map Value.string)
  a : w.ownsRow B 59 2 a fl.length (fcl fl)
  b : w.ownsRow B 9 1 b rest.length (rest.map Value.string)
  c : w.ownsRow B 59 2 c fl.length (fcl fl)
  d : w.ownsRow B 9 1 d rest.length (rest.map Value.string)
theorem Five.below {B g n : Nat} {ss rest : List ByteArray} {fl : Fl} {a b c d : Value} {w w' : World} (h : Five B g n ss rest fl a b c d w) (hb : Below w.heap.size w w') : Five B g n ss rest fl a b c d w' :=
  ⟨own_below h.t hb, own_below h.a hb, own_below h.b hb, own_below h.c hb, own_below h.d hb⟩
theorem Five.kp {B g n : Nat} {ss rest : List ByteArray} {fl : Fl} {a b c d : Value} {w w' : World} (h : Five B g n ss rest fl a b c d w) (hb : Bk.Kp B w w') : Five B g n ss rest fl a b c d w' :=
  ⟨hb.text h.t, hb.flag h.a, hb.text h.b, hb.flag h.c, hb.text h.d⟩
/-- no two of one kind lie in one block -/
structure Aloof (t a b c d : Value) : Prop where
  tb : ∀ k, t.ownBlock = some k → b.ownBlock = some k → False
  td : ∀ k, t.ownBlock = some k → d.ownBlock = some k → False
  bd : ∀ k, b.ownBlock = some k → d.ownBlock = some k → False
  ac : ∀ k, a.ownBlock = some k → c.ownBlock = some k → False
/-- a row that was there, and one that lies above all that was there -/
theorem aloof_of {w w' : World} {B1 B2 : Nat} {e1 e2 : TypeId} {s1 s2 n1 n2 : Nat} {v1 v2 : Value} {x1 x2 : List Value} (h1 : w.ownsRow B1 e1 s1 v1 n1 x1) (h2 : w'.ownsRow B2 e2 s2 v2 n2 x2) (h : w.heap.size ≤ B2) : ∀ k, v1.ownBlock = some k → v2.ownBlock = some k → False := by
  intro k k1 k2
  have := (Bk.own_block h1 k k1).1
  have := Bk.own_lo h2 k k2
  omega
theorem Five.texts {B g n : Nat} {ss rest : List ByteArray} {fl : Fl} {a b c d : Value} {w : World} (h : Five B g n ss rest fl a b c d w) (hA : Aloof (.slice (some ⟨g, 0, none⟩) n (n + 1)) a b c d) (hn : n ≤ 4194304) (hr : rest.length ≤ 4194304) :
    Bk.Given B 9 1 [⟨.slice (some ⟨g, 0, none⟩) n (n + 1), 1, n, ss.map Value.string⟩, ⟨b, 3, rest.length, rest.map Value.string⟩, ⟨d, 5, rest.length, rest.map Value.string⟩] w := by
  refine ⟨?_, ?_⟩
  · intro x hx
    simp only [List.mem_cons, List.not_mem_nil, or_false] at hx
    rcases hx with rfl | rfl | rfl
    · exact ⟨h.t, by simp, hn⟩
    · exact ⟨h.b, by simp, hr⟩
    · exact ⟨h.d, by simp, hr⟩
  · refine List.Pairwise.cons ?_ (List.Pairwise.cons ?_ (List.Pairwise.cons ?_ List.Pairwise.nil))
    · intro x hx
      simp only [List.mem_cons, List.not_mem_nil, or_false] at hx
      rcases hx with rfl | rfl
      · exact hA.tb
      · exact hA.td
    · intro x hx
      simp only [List.mem_cons, List.not_mem_nil, or_false] at hx
      subst hx
      exact hA.bd
    · intro x hx
      cases hx
theorem Five.flags {B g n : Nat} {ss rest : List ByteArray} {fl : Fl} {a b c d t : Value} {w : World} (h : Five B g n ss rest fl a b c d w) (hA : Aloof t a b c d) (hn : fl.length ≤ 4194304) :
    Bk.Given B 59 2 [⟨a, 2, fl.length, fcl fl⟩, ⟨c, 4, fl.length, fcl fl⟩] w := by
  refine ⟨?_, ?_⟩
  · intro x hx
    simp only [List.mem_cons, List.not_mem_nil, or_false] at hx
    rcases hx with rfl | rfl
    · exact ⟨h.a, by simp, hn⟩
    · exact ⟨h.c, by simp, hn⟩
  · refine List.Pairwise.cons ?_ (List.Pairwise.cons ?_ List.Pairwise.nil)
    · intro x hx
      simp only [List.mem_cons, List.not_mem_nil, or_false] at hx
      subst hx
      exact hA.ac
    · intro x hx
      cases hx

set_option maxHeartbeats 2000000 in
set_option maxRecDepth 100000 in
theorem parses_walk (which : ByteArray) (a : Option Addr) (n cap : Nat) (ss : List ByteArray) (w : World) (hT : Tx w a n cap ss) (hw : which.size ≤ 4611686018427387900)
    (hn : n ≤ 4611686018427387) (hs : ∀ s ∈ ss, s.size ≤ 4611686018427387900) :
    Calls Tryd.prog 3 #[.string which, .slice a n cap] w fun e w' => e = .returned (.bool true) ∧ Below w.heap.size w w' := by
  have HT := hide hT
  have HS := hide hs
  have HL := hide hT.len
  clear hT hs
  go_enter Tryd.func3, Tryd.ntmps3
  go_wp2_with fail
  refine (textsSize_any a n cap ss _ (unhide HT) (by omega) (fun s hs => by have := unhide HS s hs; omega)).mono ?_
  rintro e w1 ⟨⟨v, rfl, hv0, hv1, hv2⟩, rfl⟩
  have HV := hide hv2
  clear hv2
  by_cases hb : 1048576 < v
  · go_wp2_with fail
    refine (Beyond.beyond_one v _ _ (by simp) (by omega) (by omega)).mono ?_
    rintro e w2 ⟨rfl, rfl⟩
    go_wp2_with fail
    go_ret
    exact ⟨rfl, (Below.refl _ _).alloc (Nat.le_refl _) _⟩
  · by_cases hwb : 2000 < (which.size : Int)
    · go_wp2_with fail
      refine (Beyond.beyond_one v _ _ (by simp) (by omega) (by omega)).mono ?_
      rintro e w2 ⟨rfl, rfl⟩
      go_wp2_with fail
      go_ret
      exact ⟨rfl, (Below.refl _ _).alloc (Nat.le_refl _) _⟩
    · have htt : n + tot ss ≤ 1048576 := by have := unhide HV (by omega); omega
      have HTT := hide htt
      have hn2 : n ≤ 1048576 := by omega
      clear htt HV
      go_wp2_with fail
      refine (Beyond.beyond_one v _ _ (by simp) (by omega) (by omega)).mono ?_
      rintro e w2 ⟨rfl, hw2⟩
      have hb2 : Below w1.heap.size w1 w2 := by rw [hw2]; exact (Below.refl _ _).alloc (Nat.le_refl _) _
      have hs2 : w1.heap.size ≤ w2.heap.size := hb2.size
      have HT2 := hide ((unhide HT).below hb2)
      clear hw2 HT
      obtain ⟨fl, rest, er, hp⟩ : ∃ fl rest er, parse which ss = (fl, rest, er) := ⟨_, _, _, rfl⟩
      have hfew := parse_few which ss
      rw [hp] at hfew
      have hfl : Hid (fl.length ≤ 4194304) := by show _ ≤ _; have h1 := hfew.1; have h2 := unhide HTT; simp only at h1; omega
      have hre : Hid (rest.length ≤ 4194304) := by show _ ≤ _; have h1 := hfew.2; rw [unhide HL] at h1; simp only at h1; omega
      have HP := hide hp
      have hsm : Hid (∀ s ∈ ss, s.size ≤ maxLen) := fun s hs => by have := unhide HS s hs; unfold maxLen; omega
      clear hp hfew HS
      go_wp2_with fail
      refine (twinTexts_at a n cap ss _ (unhide HT2) hn2).mono ?_
      rintro e w3 ⟨g, rfl, htw, hb3⟩
      have HW3 := hide htw
      have HB3 : Hid (Below w1.heap.size w1 w3) := hb2.trans (hb3.mono hs2)
      have HT3 := hide ((unhide HT2).below hb3)
      have N2 := hide hs2
      clear htw hb2 hb3 HT2 hs2
      go_wp2_with fail
      refine (parse_own (unhide HP) _ _ _ _ ((unhide HW3).tx (unhide HL)) (by omega) (by omega) (unhide hsm) (by have := unhide HTT; omega)).mono ?_
      rintro e w4 ⟨xa, xb, rfl, ha, hb', hb4⟩
      have HA4 := hide ha
      have HC4 := hide hb'
      have HW4 := hide ((unhide HW3).below hb4)
      have HB4 : Hid (Below w1.heap.size w1 w4) := (unhide HB3).trans (hb4.mono (unhide HB3).size)
      have HT4 := hide ((unhide HT3).below hb4)
      have A1 := hide (aloof_of (unhide HW3).1 hb' (Nat.le_refl _))
      have N3 := hide (show w1.heap.size ≤ w3.heap.size from (unhide HB3).size)
      have N4 := hide (show w3.heap.size ≤ w4.heap.size from hb4.size)
      clear ha hb' hb4 HT3 HB3
      go_wp2_with fail
      refine (parse_own (unhide HP) _ _ _ _ ((unhide HW4).tx (unhide HL)) (by omega) (by omega) (unhide hsm) (by have := unhide HTT; omega)).mono ?_
      rintro e w5 ⟨xc, xd, rfl, hc, hd, hb5⟩
      have HF5 : Hid (Five w1.heap.size g n ss rest fl xa xb xc xd w5) := ⟨own_below (Bk.own_base (unhide HW4).1 (unhide N2)) hb5, own_below (Bk.own_base (unhide HA4) (unhide N3)) hb5, own_below (Bk.own_base (unhide HC4) (unhide N3)) hb5, Bk.own_base hc (Nat.le_trans (unhide N3) (unhide N4)), Bk.own_base hd (Nat.le_trans (unhide N3) (unhide N4))⟩
      have HAL : Hid (Aloof (.slice (some ⟨g, 0, none⟩) n (n + 1)) xa xb xc xd) := ⟨unhide A1, aloof_of (unhide HW4).1 hd (Nat.le_refl _), aloof_of (unhide HC4) hd (Nat.le_refl _), aloof_of (unhide HA4) hc (Nat.le_refl _)⟩
      have HW5 := hide ((unhide HW4).below hb5)
      have HB5 : Hid (Below w1.heap.size w1 w5) := (unhide HB4).trans (hb5.mono (unhide HB4).size)
      have HT5 := hide ((unhide HT4).below hb5)
      clear hc hd hb5 HT4 HB4 HA4 HC4 A1 N2 N3 N4 HW3 HW4
      go_wp2_with fail
      refine (refParse_own (unhide HP) _ _ _ _ (unhide HT5) (by omega) (by omega) (by have := unhide HTT; omega)).mono ?_
      rintro e w6 ⟨xx, xy, rfl, hx, hy, hb6⟩
      have HX6 := hide hx
      have HY6 := hide hy
      have HF6 := hide ((unhide HF5).below hb6)
      have HW6 := hide ((unhide HW5).below hb6)
      have HT6 := hide ((unhide HT5).below hb6)
      have HB6 : Hid (Below w1.heap.size w1 w6) := (unhide HB5).trans (hb6.mono (unhide HB5).size)
      clear hx hy hb6 HF5 HW5 HT5 HB5
      go_wp2_with fail
      refine (sameFlags_own (unhide HF6).a (unhide HX6) (by have := unhide hfl; omega)).mono ?_
      rintro e w7 ⟨rfl, hb7⟩
      have HX7 := hide (own_below (unhide HX6) hb7)
      have HY7 := hide (own_below (unhide HY6) hb7)
      have HF7 := hide ((unhide HF6).below hb7)
      have HW7 := hide ((unhide HW6).below hb7)
      have HT7 := hide ((unhide HT6).below hb7)
      have HB7 : Hid (Below w1.heap.size w1 w7) := (unhide HB6).trans (hb7.mono (unhide HB6).size)
      clear hb7 HX6 HY6 HF6 HW6 HT6 HB6
      go_wp2_with fail
      refine (sameTexts_own (unhide HF7).b (unhide HY7) (by have := unhide hre; omega)).mono ?_
      rintro e w8 ⟨rfl, hb8⟩
      have HX8 := hide (own_below (unhide HX7) hb8)
      have HY8 := hide (own_below (unhide HY7) hb8)
      have HF8 := hide ((unhide HF7).below hb8)
      have HW8 := hide ((unhide HW7).below hb8)
      have HT8 := hide ((unhide HT7).below hb8)
      have HB8 : Hid (Below w1.heap.size w1 w8) := (unhide HB7).trans (hb8.mono (unhide HB7).size)
      clear hb8 HX7 HY7 HF7 HW7 HT7 HB7
      go_wp2_with fail
      refine (sameFlags_own (unhide HF8).c (unhide HX8) (by have := unhide hfl; omega)).mono ?_
      rintro e w9 ⟨rfl, hb9⟩
      have HY9 := hide (own_below (unhide HY8) hb9)
      have HF9 := hide ((unhide HF8).below hb9)
      have HW9 := hide ((unhide HW8).below hb9)
      have HT9 := hide ((unhide HT8).below hb9)
      have HB9 : Hid (Below w1.heap.size w1 w9) := (unhide HB8).trans (hb9.mono (unhide HB8).size)
      clear hb9 HX8 HY8 HF8 HW8 HT8 HB8
      go_wp2_with fail
      refine (sameTexts_own (unhide HF9).d (unhide HY9) (by have := unhide hre; omega)).mono ?_
      rintro e w10 ⟨rfl, hb10⟩
      have HF10 := hide ((unhide HF9).below hb10)
      have HW10 := hide ((unhide HW9).below hb10)
      have HT10 := hide ((unhide HT9).below hb10)
      have HB10 : Hid (Below w1.heap.size w1 w10) := (unhide HB9).trans (hb10.mono (unhide HB9).size)
      clear hb10 HY9 HF9 HW9 HT9 HB9
      go_wp2_with fail
      refine (leftTexts_any _ g a n cap ss _ (unhide HT10) (unhide HW10) hn2).mono ?_
      rintro e w11 ⟨rfl, hb11⟩
      have HF11 := hide ((unhide HF10).below hb11)
      have HB11 : Hid (Below w1.heap.size w1 w11) := (unhide HB10).trans (hb11.mono (unhide HB10).size)
      clear hb11 HF10 HW10 HT10 HB10
      go_wp2_with fail
      obtain ⟨P, hP⟩ : ∃ P, P = w11.heap.size := ⟨_, rfl⟩
      rw [← hP]
      have hs11 := (unhide HB11).size
      obtain ⟨w12, hw12⟩ : ∃ W, W = w11.alloc (Obj.cells #[Value.int IntKind.i64 0, Value.slice none 0 0, Value.slice none 0 0, Value.slice none 0 0, Value.slice none 0 0, Value.slice none 0 0, Value.slice none 0 0, Value.slice none 0 0, Value.slice none 0 0, Value.slice none 0 0, Value.slice none 0 0, Value.slice none 0 0, Value.slice none 0 0] 45) := ⟨_, rfl⟩
      rw [← hw12]
      have hO := Bk.own_new w11 P hP
      rw [← hw12] at hO
      have hb12 : Below w11.heap.size w11 w12 := by rw [hw12]; exact (Below.refl _ _).alloc (Nat.le_refl _) _
      have HF12 := hide ((unhide HF11).below hb12)
      have HB12 : Hid (Below w1.heap.size w1 w12) := (unhide HB11).trans (hb12.mono hs11)
      have K0 : Hid (Bk.BTF w1.heap.size P 0 [] [] w12) := Bk.BTF.start hO (by omega) (unhide HB12).size
      clear hw12 hO hb12 hP hs11 HF11 HB11
      refine (Bk.texts_step _ _ _ _ _ _ (unhide K0) _ _ _ _ _ (unhide HF12).t (by decide) (by decide)).mono ?_
      rintro e w13 ⟨rfl, k1, hk1⟩
      have K1 := hide k1
      have HF13 := hide ((unhide HF12).kp hk1)
      have HB13 : Hid (Below w1.heap.size w1 w13) := (unhide HB12).trans (hk1.below (unhide HB12).size)
      clear k1 hk1 K0 HF12 HB12
      go_wp2_with fail
      refine (Bk.flags_step _ _ _ _ _ _ (unhide K1) _ _ _ _ _ (unhide HF13).a (by decide) (by decide)).mono ?_
      rintro e w14 ⟨rfl, k1, hk1⟩
      have K2 := hide k1
      have HF14 := hide ((unhide HF13).kp hk1)
      have HB14 : Hid (Below w1.heap.size w1 w14) := (unhide HB13).trans (hk1.below (unhide HB13).size)
      clear k1 hk1 K1 HF13 HB13
      go_wp2_with fail
      refine (Bk.texts_step _ _ _ _ _ _ (unhide K2) _ _ _ _ _ (unhide HF14).b (by decide) (by simp)).mono ?_
      rintro e w15 ⟨rfl, k1, hk1⟩
      have K3 := hide k1
      have HF15 := hide ((unhide HF14).kp hk1)
      have HB15 : Hid (Below w1.heap.size w1 w15) := (unhide HB14).trans (hk1.below (unhide HB14).size)
      clear k1 hk1 K2 HF14 HB14
      go_wp2_with fail
      refine (Bk.flags_step _ _ _ _ _ _ (unhide K3) _ _ _ _ _ (unhide HF15).c (by decide) (by simp)).mono ?_
      rintro e w16 ⟨rfl, k1, hk1⟩
      have K4 := hide k1
      have HF16 := hide ((unhide HF15).kp hk1)
      have HB16 : Hid (Below w1.heap.size w1 w16) := (unhide HB15).trans (hk1.below (unhide HB15).size)
      clear k1 hk1 K3 HF15 HB15
      go_wp2_with fail
      refine (Bk.texts_step _ _ _ _ _ _ (unhide K4) _ _ _ _ _ (unhide HF16).d (by decide) (by simp)).mono ?_
      rintro e w17 ⟨rfl, k1, hk1⟩
      have K5 := hide k1
      have HF17 := hide ((unhide HF16).kp hk1)
      have HB17 : Hid (Below w1.heap.size w1 w17) := (unhide HB16).trans (hk1.below (unhide HB16).size)
      clear k1 hk1 K4 HF16 HB16
      go_wp2_with fail
      refine (Bk.apart_step _ _ _ _ _ _ (unhide K5) (by exact (unhide HF17).texts (unhide HAL) (by omega) (unhide hre)) (by exact (unhide HF17).flags (unhide HAL) (unhide hfl)) (by simp) (by simp)).mono ?_
      rintro e w18 ⟨rfl, hb18⟩
      have HB18 : Hid (Below w1.heap.size w1 w18) := (unhide HB17).trans hb18
      clear hb18 K5 HF17 HB17
      go_wp2_with fail
      go_ret
      exact ⟨rfl, unhide HB18⟩
end Go.Proofs.YtamgehfppeknhaaDoor.Pa
