/- The walk of CutsFolds. -/
import Derived.Test.YtpfdjnnnemkoiaaDoorCuBook
import Derived.Test.YtpfdjnnnemkoiaaDoorCuRefFold
import Derived.Test.YtpfdjnnnemkoiaaDoorBeyond
namespace Go.Proofs.YtpfdjnnnemkoiaaDoor.Cu
open Go.RowKit Go.Shelf

open Classical in
/-- parts, or none where the number is refused -/
noncomputable def fL (n : Int) (bl : Bool) (s : Bs) : List Bs := if n < 1 ∨ 65536 < n then [] else foldL n.toNat bl s
open Classical in
noncomputable def fE (n : Int) : Nat := if n < 1 ∨ 65536 < n then 1 else 0
theorem fE_le (n : Int) : fE n ≤ 1 := by unfold fE; split <;> omega
theorem fL_len (n : Int) (bl : Bool) (s : Bs) : (fL n bl s).length ≤ s.length + 1 := by
  unfold fL
  split
  · simp
  · exact foldL_len n.toNat bl (by omega) _ s (Nat.le_refl _)
theorem fold_all (s : ByteArray) (n : Int) (bl : Bool) (w : World) (hs : s.size ≤ 1073741823) :
    Calls Tryd.prog 6 #[.string s, .int .i64 n, .bool bl] w fun e w' => ∃ v, e = .returned (.tuple #[v, .int .i64 (fE n)]) ∧ RowS w.heap.size v (fL n bl (bs s)) w' ∧ Below w.heap.size w w' := by
  by_cases h : n < 1 ∨ 65536 < n
  · have e1 : fE n = 1 := by simp [fE, h]
    have e2 : fL n bl (bs s) = [] := by simp [fL, h]
    rw [e1, e2]
    exact (fold_bad s n bl w h).mono fun e w' ⟨h1, h2⟩ => ⟨_, h1, World.ownsRow_nil _ _ _ _, h2 ▸ Below.refl _ _⟩
  · have e1 : fE n = 0 := by simp [fE, h]
    have e2 : fL n bl (bs s) = foldL n.toNat bl (bs s) := by simp [fL, h]
    rw [e1, e2]
    obtain ⟨m, rfl⟩ : ∃ m : Nat, n = (m : Int) := ⟨n.toNat, by omega⟩
    exact fold_any s m bl w (by omega) (by omega) hs
theorem rfold_all (s : ByteArray) (n : Int) (bl : Bool) (w : World) (hs : s.size ≤ 1073741823) :
    Calls Tryd.prog 7 #[.string s, .int .i64 n, .bool bl] w fun e w' => ∃ v, e = .returned (.tuple #[v, .int .i64 (fE n)]) ∧ RowS w.heap.size v (fL n bl (bs s)) w' ∧ Below w.heap.size w w' := by
  by_cases h : n < 1 ∨ 65536 < n
  · have e1 : fE n = 1 := by simp [fE, h]
    have e2 : fL n bl (bs s) = [] := by simp [fL, h]
    rw [e1, e2]
    exact (rfold_bad s n bl w h).mono fun e w' ⟨h1, h2⟩ => ⟨_, h1, World.ownsRow_nil _ _ _ _, h2 ▸ Below.refl _ _⟩
  · have e1 : fE n = 0 := by simp [fE, h]
    have e2 : fL n bl (bs s) = foldL n.toNat bl (bs s) := by simp [fL, h]
    rw [e1, e2]
    obtain ⟨m, rfl⟩ : ∃ m : Nat, n = (m : Int) := ⟨n.toNat, by omega⟩
    exact rfold_any s m bl w (by omega) (by omega) hs

set_option maxHeartbeats 2000000 in
set_option maxRecDepth 100000 in
theorem folds_walk (s : ByteArray) (n : Int) (bl : Bool) (w : World) (hs : s.size ≤ 4611686018427387900) :
    Calls Tryd.prog 3 #[.string s, .int .i64 n, .bool bl] w fun e w' => e = .returned (.bool true) ∧ Below w.heap.size w w' := by
  go_enter Tryd.func3, Tryd.ntmps3
  go_wp2_with fail
  refine (Beyond.beyond_one (s.size : Int) w.heap.size _ (by simp) (by omega) (by omega)).mono ?_
  rintro e w' ⟨rfl, rfl⟩
  have hB1 : Below w.heap.size w (w.alloc (.cells #[.int .i64 s.size] 3)) := (Below.refl _ _).alloc (Nat.le_refl _) _
  generalize (w.alloc (.cells #[.int .i64 s.size] 3)) = w1 at *
  by_cases hb : 1048576 < (s.size : Int)
  · go_wp2_with fail
    go_ret
    exact ⟨rfl, hB1⟩
  · have hLl := fL_len n bl (bs s)
    rw [bs_len] at hLl
    have hE := fE_le n
    have C1 : Hid (∀ W, Calls Tryd.prog 6 #[.string s, .int .i64 n, .bool bl] W fun e w' => ∃ v, e = .returned (.tuple #[v, .int .i64 (fE n)]) ∧ RowS W.heap.size v (fL n bl (bs s)) w' ∧ Below W.heap.size W w') := fun W => fold_all s n bl W (by omega)
    have C3 : Hid (∀ W, Calls Tryd.prog 7 #[.string s, .int .i64 n, .bool bl] W fun e w' => ∃ v, e = .returned (.tuple #[v, .int .i64 (fE n)]) ∧ RowS W.heap.size v (fL n bl (bs s)) w' ∧ Below W.heap.size W w') := fun W => rfold_all s n bl W (by omega)
    generalize fL n bl (bs s) = L at *
    generalize fE n = E at *
    have N1 := hide hB1.size
    go_wp2_with fail
    refine (unhide C1 _).mono ?_
    rintro e w2 ⟨va, rfl, ra, hb2⟩
    have HB2 : Hid (Below w.heap.size w w2) := hB1.trans (hb2.mono hB1.size)
    have HA2 := hide ra
    have N2 := hide hb2.size
    clear hB1 ra hb2
    go_wp2_with fail
    refine (unhide C1 _).mono ?_
    rintro e w3 ⟨vb, rfl, rb, hb3⟩
    have HB3 : Hid (Below w.heap.size w w3) := (unhide HB2).trans (hb3.mono (unhide HB2).size)
    have HAL := hide (aloof (unhide HA2) rb (Nat.le_refl _))
    have HA3 : Hid (RowS w.heap.size va L w3) := by
      have n1 := unhide N1
      exact Bk.own_base ((unhide HA2).below hb3) (by omega)
    have HBb3 : Hid (RowS w.heap.size vb L w3) := by
      have n1 := unhide N1
      have n2 := unhide N2
      exact Bk.own_base rb (by omega)
    clear HB2 HA2 rb hb3 N1 N2
    go_wp2_with fail
    refine (unhide C3 _).mono ?_
    rintro e w6 ⟨vx, rfl, rx, hb6⟩
    have HB6 : Hid (Below w.heap.size w w6) := (unhide HB3).trans (hb6.mono (unhide HB3).size)
    have HA6 := hide ((unhide HA3).below hb6)
    have HBb6 := hide ((unhide HBb3).below hb6)
    have HX6 := hide rx
    clear HB3 HA3 HBb3 rx hb6 C1 C3
    go_wp2_with fail
    refine (same_rows (unhide HA6) (unhide HX6) (by omega)).mono ?_
    rintro e w8 ⟨rfl, hb8⟩
    have HB8 : Hid (Below w.heap.size w w8) := (unhide HB6).trans (hb8.mono (unhide HB6).size)
    have HA8 := hide ((unhide HA6).below hb8)
    have HBb8 := hide ((unhide HBb6).below hb8)
    have HX8 := hide ((unhide HX6).below hb8)
    clear HB6 HA6 HBb6 HX6 hb8
    go_wp2_with fail
    refine (same_rows (unhide HBb8) (unhide HX8) (by omega)).mono ?_
    rintro e w9 ⟨rfl, hb9⟩
    have HB9 : Hid (Below w.heap.size w w9) := (unhide HB8).trans (hb9.mono (unhide HB8).size)
    have HA9 := hide ((unhide HA8).below hb9)
    have HBb9 := hide ((unhide HBb8).below hb9)
    clear HB8 HA8 HBb8 HX8 hb9
    go_wp2_with fail
    obtain ⟨P, hP⟩ : ∃ P, P = w9.heap.size := ⟨_, rfl⟩
    rw [← hP]
    have hs9 := (unhide HB9).size
    obtain ⟨w10, hw10⟩ : ∃ W, W = w9.alloc (Obj.cells #[Value.int IntKind.i64 0, Value.slice none 0 0, Value.slice none 0 0, Value.slice none 0 0, Value.slice none 0 0, Value.slice none 0 0, Value.slice none 0 0, Value.slice none 0 0, Value.slice none 0 0, Value.slice none 0 0, Value.slice none 0 0, Value.slice none 0 0, Value.slice none 0 0] 41) := ⟨_, rfl⟩
    rw [← hw10]
    have hO := Bk.own_new w9 P hP
    rw [← hw10] at hO
    have hb10 : Below w9.heap.size w9 w10 := by rw [hw10]; exact (Below.refl _ _).alloc (Nat.le_refl _) _
    have HA10 := hide ((unhide HA9).below hb10)
    have HBb10 := hide ((unhide HBb9).below hb10)
    have HB10 : Hid (Below w.heap.size w w10) := (unhide HB9).trans (hb10.mono hs9)
    have K0 : Hid (Bk.BTF w.heap.size P 0 [] [] w10) := Bk.BTF.start hO (by omega) (unhide HB10).size
    clear hw10 hO hb10 hP hs9 HA9 HBb9 HB9
    refine (Bk.texts_step _ _ _ _ _ _ (unhide K0) _ _ _ _ _ (unhide HA10) (by decide) (by decide)).mono ?_
    rintro e w11 ⟨rfl, k1, hk1⟩
    have K1 := hide k1
    have HA11 : Hid (RowS w.heap.size va L w11) := hk1.text (unhide HA10)
    have HBb11 : Hid (RowS w.heap.size vb L w11) := hk1.text (unhide HBb10)
    have HB11 : Hid (Below w.heap.size w w11) := (unhide HB10).trans (hk1.below (unhide HB10).size)
    clear k1 hk1 K0 HA10 HBb10 HB10
    go_wp2_with fail
    refine (Bk.texts_step _ _ _ _ _ _ (unhide K1) _ _ _ _ _ (unhide HBb11) (by decide) (by simp)).mono ?_
    rintro e w12 ⟨rfl, k1, hk1⟩
    have K2 := hide k1
    have HA12 : Hid (RowS w.heap.size va L w12) := hk1.text (unhide HA11)
    have HBb12 : Hid (RowS w.heap.size vb L w12) := hk1.text (unhide HBb11)
    have HB12 : Hid (Below w.heap.size w w12) := (unhide HB11).trans (hk1.below (unhide HB11).size)
    clear k1 hk1 K1 HA11 HBb11 HB11
    go_wp2_with fail
    refine (Bk.apart_step _ _ _ _ _ _ (unhide K2) (by exact given_two (unhide HA12) (unhide HBb12) (unhide HAL) (by omega)) (no_flags _ _) (by simp) (by simp)).mono ?_
    rintro e w15 ⟨rfl, hb15⟩
    have HB15 : Hid (Below w.heap.size w w15) := (unhide HB12).trans hb15
    clear hb15 K2 HA12 HBb12 HB12
    go_wp2_with fail
    go_ret
    exact ⟨rfl, unhide HB15⟩
end Go.Proofs.YtpfdjnnnemkoiaaDoor.Cu
