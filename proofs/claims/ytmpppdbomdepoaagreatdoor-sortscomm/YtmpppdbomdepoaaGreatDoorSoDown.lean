/- What container/heap's down, up, Init, Pop and Push do to a heap that lies behind an interface, of which just the contracts are known. -/
import Derived.Test.YtmpppdbomdepoaaGreatDoorSoHeap
import Derived.Test.YtmpppdbomdepoaaGreatDoorKyBase
namespace Go.Proofs.YtmpppdbomdepoaaGreatDoor.So
open Go.RowKit Go.Shelf Ky

attribute [local go_sem] Oper.semAt_some

/-- a method of the value behind the interface is the function k -/
def Meth (T : TypeId) (p : Addr) (name : String) (k : FuncId) : Prop :=
  (∀ w, (method 371 T (.pointer (some p)) name).run Tryz.prog w = .ok (k, .pointer (some p)) w) ∧ ∀ args w, (callFunc k args).run Tryz.prog w = .ok (.enter k args) w
/-- what is known of a heap: S tells what it holds -/
structure Pile {α : Type} (T : TypeId) (p : Addr) (S : World → List α → Prop) (c : α → α → Int) (d : α) : Prop where
  len : ∃ k, Meth T p "Len" k ∧ ∀ w l, S w l → Calls Tryz.prog k #[.pointer (some p)] w fun e w' => e = .returned (.int .i64 l.length) ∧ S w' l
  less : ∃ k, Meth T p "Less" k ∧ ∀ w l (i j : Nat), S w l → i < l.length → j < l.length → Calls Tryz.prog k #[.pointer (some p), .int .i64 i, .int .i64 j] w fun e w' => e = .returned (.bool (decide (c (l.getD i d) (l.getD j d) < 0))) ∧ S w' l
  swap : ∃ k, Meth T p "Swap" k ∧ ∀ w l (i j : Nat), S w l → i < l.length → j < l.length → Calls Tryz.prog k #[.pointer (some p), .int .i64 i, .int .i64 j] w fun e w' => e = .returned (.tuple #[]) ∧ S w' (swp d l i j)
/-- and of taking its last one, of laying one on -/
structure PileOff {α : Type} (T : TypeId) (p : Addr) (S : World → List α → Prop) (d : α) (iv : α → Value) : Prop where
  pop : ∃ k, Meth T p "Pop" k ∧ ∀ w l, S w l → 0 < l.length → Calls Tryz.prog k #[.pointer (some p)] w fun e w' => e = .returned (iv (l.getD (l.length - 1) d)) ∧ S w' (l.take (l.length - 1))
structure PileOn {α : Type} (T : TypeId) (p : Addr) (S : World → List α → Prop) (X : World → α → Prop) (iv : α → Value) : Prop where
  push : ∃ k, Meth T p "Push" k ∧ ∀ w l x, S w l → X w x → l.length < 65536 → Calls Tryz.prog k #[.pointer (some p), iv x] w fun e w' => e = .returned (.tuple #[]) ∧ S w' (l ++ [x])

set_option maxRecDepth 100000 in
set_option maxHeartbeats 2000000 in
theorem down_any {α : Type} {T : TypeId} {p : Addr} {S : World → List α → Prop} {c : α → α → Int} {d : α} (H : Pile T p S c d) (g : Ky.Good c) (l : List α) (i0 n : Nat) (w : World)
    (hS : S w l) (hl : l.length ≤ 65536) (hn : n ≤ l.length) (hi : i0 ≤ n) (hx : Hx c d l i0 n i0) :
    Calls Tryz.prog 125 #[.iface T (.pointer (some p)), .int .i64 i0, .int .i64 n] w fun e w' => ∃ v l', e = .returned v ∧ S w' l' ∧ l'.Perm l ∧ Hp c d l' i0 n ∧ l'.drop n = l.drop n := by
  obtain ⟨kl, ⟨ml, el⟩, cl⟩ := H.less
  obtain ⟨ks, ⟨ms, es⟩, cs⟩ := H.swap
  have CL := hide cl
  have CS := hide cs
  clear cl cs H
  have hx0 := hide hx
  have hS0 := hide hS
  clear hx hS
  go_enter Tryz.func125, Tryz.ntmps125
  go_wp2_with fail
  go_loopw [7] (fun i wr => ∃ (x : Nat) (l' : List α), i0 ≤ x ∧ x ≤ n ∧ i = .int .i64 x ∧ Hid (S wr l') ∧ Hid (l'.Perm l) ∧ Hid (Hx c d l' i0 n x) ∧ Hid (l'.drop n = l.drop n)) (fun i _ => n - (intOf i).toNat)
  case atStart => exact ⟨i0, l, Nat.le_refl _, hi, rfl, hS0, .refl _, hx0, rfl⟩
  case round =>
    clear hx0 hS0
    obtain ⟨x, l', hix, hxn, rfl, hS, hP, hX, hD⟩ := hrel
    have hll : l'.length = l.length := (unhide hP).length_eq
    obtain ⟨j1, hj1⟩ : ∃ j1, j1 = 2 * x + 1 := ⟨_, rfl⟩
    obtain ⟨j2, hj2⟩ : ∃ j2, j2 = j1 + 1 := ⟨_, rfl⟩
    have e1 : 2 * (x : Int) + 1 = (j1 : Int) := by omega
    have e2 : (j1 : Int) + 1 = (j2 : Int) := by omega
    have h0 : ¬ (j1 : Int) < 0 := by omega
    by_cases hn1 : n ≤ j1
    · have hn1' : (n : Int) ≤ (j1 : Int) := by omega
      have hE : Hid (Hp c d l' i0 n) := hx_end c d l' i0 x n (unhide hX) (fun j hj hjn => by unfold Kid at hj; omega)
      clear hX hj1 hj2 hn1
      go_wp2_with fail
      go_ret
      first
      | exact ⟨_, l', rfl, unhide hS, unhide hP, unhide hE, unhide hD⟩
      | exact ⟨⟨_, rfl⟩, l', unhide hS, unhide hP, unhide hE, unhide hD⟩
    · have hn1' : ¬ (n : Int) ≤ (j1 : Int) := by omega
      have HJ1 := hide hj1
      have HJ2 := hide hj2
      by_cases hn2 : j2 < n
      · have hn2' : (j2 : Int) < (n : Int) := by omega
        have C1 : Hid (∀ W, S W l' → Calls Tryz.prog kl #[.pointer (some p), .int .i64 j2, .int .i64 j1] W fun e w' => e = .returned (.bool (decide (c (l'.getD j2 d) (l'.getD j1 d) < 0))) ∧ S w' l') := fun W h => unhide CL W l' j2 j1 h (by omega) (by omega)
        by_cases h21 : c (l'.getD j2 d) (l'.getD j1 d) < 0
        · rw [decide_eq_true h21] at C1
          obtain ⟨y, hye⟩ : ∃ y, y = j2 := ⟨_, rfl⟩
          have hy : Kid x y := by unfold Kid; omega
          have hyn : y < n := by omega
          have hm : ∀ j, Kid x j → j < n → c (l'.getD y d) (l'.getD j d) ≤ 0 := fun j hj hjn => by
            rcases (show j = j1 ∨ j = j2 by unfold Kid at hj; omega) with rfl | rfl
            · rw [hye]; omega
            · rw [hye]; exact Int.le_of_eq (g.self _)
          have CY : Hid (∀ W, S W l' → Calls Tryz.prog kl #[.pointer (some p), .int .i64 y, .int .i64 x] W fun e w' => e = .returned (.bool (decide (c (l'.getD y d) (l'.getD x d) < 0))) ∧ S w' l') := fun W h => unhide CL W l' y x h (by omega) (by omega)
          by_cases hlt : c (l'.getD y d) (l'.getD x d) < 0
          · rw [decide_eq_true hlt] at CY
            have hS' : Hid (Hx c d (swp d l' x y) i0 n y) := hx_step d l' i0 x y n (unhide hX) hix (by omega) hy hyn hm hlt
            have hP' : Hid ((swp d l' x y).Perm l) := (swp_perm d l' (by omega) (by omega)).trans (unhide hP)
            have hD' : Hid ((swp d l' x y).drop n = l.drop n) := (swp_take d l' (by omega) hyn).trans (unhide hD)
            have CW : Hid (∀ W, S W l' → Calls Tryz.prog ks #[.pointer (some p), .int .i64 x, .int .i64 y] W fun e w' => e = .returned (.tuple #[]) ∧ S w' (swp d l' x y)) := fun W h => unhide CS W l' x y h (by omega) (by omega)
            clear hX hP hD hm hlt
            clear hj1 hj2 hn1 hn2 h21
            subst hye
            go_wp2_with fail
            refine (unhide C1 _ (unhide hS)).mono ?_
            rintro e w2 ⟨rfl, s2⟩
            have hS2 := hide s2
            clear s2 C1 hS
            go_wp2_with fail
            refine (unhide CY _ (unhide hS2)).mono ?_
            rintro e w3 ⟨rfl, s3⟩
            have hS3 := hide s3
            clear s3 CY
            go_wp2_with fail
            refine (unhide CW _ (unhide hS3)).mono ?_
            rintro e w4 ⟨rfl, s4⟩
            have hS4 := hide s4
            clear s4 CW
            go_wp2_with fail
            go_roundw
            case rel => exact ⟨y, swp d l' x y, by omega, by omega, by go_num, hS4, hP', hS', hD'⟩
            case measure => unfold Kid at hy; simp [intOf]; omega
          · rw [decide_eq_false hlt] at CY
            have hE : Hid (Hp c d l' i0 n) := hx_end c d l' i0 x n (unhide hX) (fun j hj hjn => by
              have h1 := hm j hj hjn
              have h2 : c (l'.getD x d) (l'.getD y d) ≤ 0 := by have := g.tn (l'.getD y d) (l'.getD x d); omega
              exact g.tr _ _ _ h2 h1)
            clear hX hm hlt
            clear hj1 hj2 hn1 hn2 h21
            subst hye
            go_wp2_with fail
            refine (unhide C1 _ (unhide hS)).mono ?_
            rintro e w2 ⟨rfl, s2⟩
            have hS2 := hide s2
            clear s2 C1 hS
            go_wp2_with fail
            refine (unhide CY _ (unhide hS2)).mono ?_
            rintro e w3 ⟨rfl, s3⟩
            have hS3 := hide s3
            clear s3 CY
            go_wp2_with fail
            go_ret
            exact ⟨_, l', rfl, unhide hS3, unhide hP, unhide hE, unhide hD⟩
        · rw [decide_eq_false h21] at C1
          obtain ⟨y, hye⟩ : ∃ y, y = j1 := ⟨_, rfl⟩
          have hy : Kid x y := by unfold Kid; omega
          have hyn : y < n := by omega
          have hm : ∀ j, Kid x j → j < n → c (l'.getD y d) (l'.getD j d) ≤ 0 := fun j hj hjn => by
            rcases (show j = j1 ∨ j = j2 by unfold Kid at hj; omega) with rfl | rfl
            · rw [hye]; exact Int.le_of_eq (g.self _)
            · rw [hye]; have := g.tn (l'.getD j d) (l'.getD j1 d); omega
          have CY : Hid (∀ W, S W l' → Calls Tryz.prog kl #[.pointer (some p), .int .i64 y, .int .i64 x] W fun e w' => e = .returned (.bool (decide (c (l'.getD y d) (l'.getD x d) < 0))) ∧ S w' l') := fun W h => unhide CL W l' y x h (by omega) (by omega)
          by_cases hlt : c (l'.getD y d) (l'.getD x d) < 0
          · rw [decide_eq_true hlt] at CY
            have hS' : Hid (Hx c d (swp d l' x y) i0 n y) := hx_step d l' i0 x y n (unhide hX) hix (by omega) hy hyn hm hlt
            have hP' : Hid ((swp d l' x y).Perm l) := (swp_perm d l' (by omega) (by omega)).trans (unhide hP)
            have hD' : Hid ((swp d l' x y).drop n = l.drop n) := (swp_take d l' (by omega) hyn).trans (unhide hD)
            have CW : Hid (∀ W, S W l' → Calls Tryz.prog ks #[.pointer (some p), .int .i64 x, .int .i64 y] W fun e w' => e = .returned (.tuple #[]) ∧ S w' (swp d l' x y)) := fun W h => unhide CS W l' x y h (by omega) (by omega)
            clear hX hP hD hm hlt
            clear hj1 hj2 hn1 hn2 h21
            subst hye
            go_wp2_with fail
            refine (unhide C1 _ (unhide hS)).mono ?_
            rintro e w2 ⟨rfl, s2⟩
            have hS2 := hide s2
            clear s2 C1 hS
            go_wp2_with fail
            refine (unhide CY _ (unhide hS2)).mono ?_
            rintro e w3 ⟨rfl, s3⟩
            have hS3 := hide s3
            clear s3 CY
            go_wp2_with fail
            refine (unhide CW _ (unhide hS3)).mono ?_
            rintro e w4 ⟨rfl, s4⟩
            have hS4 := hide s4
            clear s4 CW
            go_wp2_with fail
            go_roundw
            case rel => exact ⟨y, swp d l' x y, by omega, by omega, by go_num, hS4, hP', hS', hD'⟩
            case measure => unfold Kid at hy; simp [intOf]; omega
          · rw [decide_eq_false hlt] at CY
            have hE : Hid (Hp c d l' i0 n) := hx_end c d l' i0 x n (unhide hX) (fun j hj hjn => by
              have h1 := hm j hj hjn
              have h2 : c (l'.getD x d) (l'.getD y d) ≤ 0 := by have := g.tn (l'.getD y d) (l'.getD x d); omega
              exact g.tr _ _ _ h2 h1)
            clear hX hm hlt
            clear hj1 hj2 hn1 hn2 h21
            subst hye
            go_wp2_with fail
            refine (unhide C1 _ (unhide hS)).mono ?_
            rintro e w2 ⟨rfl, s2⟩
            have hS2 := hide s2
            clear s2 C1 hS
            go_wp2_with fail
            refine (unhide CY _ (unhide hS2)).mono ?_
            rintro e w3 ⟨rfl, s3⟩
            have hS3 := hide s3
            clear s3 CY
            go_wp2_with fail
            go_ret
            exact ⟨_, l', rfl, unhide hS3, unhide hP, unhide hE, unhide hD⟩
      · have hn2' : ¬ (j2 : Int) < (n : Int) := by omega
        obtain ⟨y, hye⟩ : ∃ y, y = j1 := ⟨_, rfl⟩
        have hy : Kid x y := by unfold Kid; omega
        have hyn : y < n := by omega
        have hm : ∀ j, Kid x j → j < n → c (l'.getD y d) (l'.getD j d) ≤ 0 := fun j hj hjn => by
          rcases (show j = j1 ∨ j = j2 by unfold Kid at hj; omega) with rfl | rfl
          · rw [hye]; exact Int.le_of_eq (g.self _)
          · omega
        have CY : Hid (∀ W, S W l' → Calls Tryz.prog kl #[.pointer (some p), .int .i64 y, .int .i64 x] W fun e w' => e = .returned (.bool (decide (c (l'.getD y d) (l'.getD x d) < 0))) ∧ S w' l') := fun W h => unhide CL W l' y x h (by omega) (by omega)
        by_cases hlt : c (l'.getD y d) (l'.getD x d) < 0
        · rw [decide_eq_true hlt] at CY
          have hS' : Hid (Hx c d (swp d l' x y) i0 n y) := hx_step d l' i0 x y n (unhide hX) hix (by omega) hy hyn hm hlt
          have hP' : Hid ((swp d l' x y).Perm l) := (swp_perm d l' (by omega) (by omega)).trans (unhide hP)
          have hD' : Hid ((swp d l' x y).drop n = l.drop n) := (swp_take d l' (by omega) hyn).trans (unhide hD)
          have CW : Hid (∀ W, S W l' → Calls Tryz.prog ks #[.pointer (some p), .int .i64 x, .int .i64 y] W fun e w' => e = .returned (.tuple #[]) ∧ S w' (swp d l' x y)) := fun W h => unhide CS W l' x y h (by omega) (by omega)
          clear hX hP hD hm hlt
          clear hj1 hj2 hn1 hn2
          subst hye
          go_wp2_with fail
          refine (unhide CY _ (unhide hS)).mono ?_
          rintro e w3 ⟨rfl, s3⟩
          have hS3 := hide s3
          clear s3 CY
          go_wp2_with fail
          refine (unhide CW _ (unhide hS3)).mono ?_
          rintro e w4 ⟨rfl, s4⟩
          have hS4 := hide s4
          clear s4 CW
          go_wp2_with fail
          go_roundw
          case rel => exact ⟨y, swp d l' x y, by omega, by omega, by go_num, hS4, hP', hS', hD'⟩
          case measure => unfold Kid at hy; simp [intOf]; omega
        · rw [decide_eq_false hlt] at CY
          have hE : Hid (Hp c d l' i0 n) := hx_end c d l' i0 x n (unhide hX) (fun j hj hjn => by
            have h1 := hm j hj hjn
            have h2 : c (l'.getD x d) (l'.getD y d) ≤ 0 := by have := g.tn (l'.getD y d) (l'.getD x d); omega
            exact g.tr _ _ _ h2 h1)
          clear hX hm hlt
          clear hj1 hj2 hn1 hn2
          subst hye
          go_wp2_with fail
          refine (unhide CY _ (unhide hS)).mono ?_
          rintro e w3 ⟨rfl, s3⟩
          have hS3 := hide s3
          clear s3 CY
          go_wp2_with fail
          go_ret
          exact ⟨_, l', rfl, unhide hS3, unhide hP, unhide hE, unhide hD⟩
end Go.Proofs.YtmpppdbomdepoaaGreatDoor.So
