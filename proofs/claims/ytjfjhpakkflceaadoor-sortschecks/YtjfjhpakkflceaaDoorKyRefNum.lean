/- What the document's run, Of, bytes and Number answer. -/
import Derived.Test.YtjfjhpakkflceaaDoorKyNum2
import Derived.Test.YtjfjhpakkflceaaDoorKyRefParts
import Derived.Deep.DeepCutAuto
import Derived.Deep.CutBlock
namespace Go.Proofs.YtjfjhpakkflceaaDoor.Ky
open Go.RowKit Go.Shelf

attribute [local go_sem] Oper.semAt_some

set_option maxHeartbeats 400000 in
theorem run_any (s : ByteArray) (a : Nat) (w : World) (h : a ≤ s.size) (hs : s.size ≤ 1073741824) :
    Calls Tryd.prog 126 #[.string s, .int .i64 (a : Int)] w fun e w' => e = .returned (.string (Ln.bt ((s.data.toList.drop a).takeWhile dg))) ∧ w' = w := by
  obtain ⟨n, hn⟩ : ∃ n, n = upto dg s.data.toList a := ⟨_, rfl⟩
  have hnl := upto_le dg s.data.toList a h
  rw [← hn] at hnl
  have hnl2 : n ≤ s.size := hnl.2
  have hnl1 : a ≤ n := hnl.1
  have e1 : Ln.bt ((s.data.toList.drop a).takeWhile dg) = s.extract a n := by
    have := upto_take dg s.data.toList a
    rw [← hn] at this
    rw [Ln.bt_extract, this]
  rw [e1]
  have HN := hide hn
  clear e1 hn hnl
  go_enter Tryd.func126, Tryd.ntmps126
  go_wp2_with fail
  go_loopw [5] (fun i wr => ∃ k : Nat, a ≤ k ∧ k ≤ s.size ∧ i = .int .i64 k ∧ Hid (n = upto dg s.data.toList k) ∧ wr = w) (fun i _ => s.size - (intOf i).toNat)
  case atStart => exact ⟨a, Nat.le_refl _, h, rfl, HN, rfl⟩
  case round =>
    clear HN
    obtain ⟨k, hak, hk, rfl, hu, rfl⟩ := hrel
    by_cases hlt : k < s.size
    · have hlt' : (k : Int) < (s.size : Int) := by omega
      cases hp : dg s[k]
      · have hu2 := (unhide hu).trans (upto_stop hlt hp)
        clear hu
        subst hu2
        rw [dg_eq] at hp
        rcases (show ¬ (48 : Int) ≤ (s[n].toNat : Int) ∨ ((48 : Int) ≤ (s[n].toNat : Int) ∧ ¬ (s[n].toNat : Int) ≤ 57) by simp at hp; omega) with h1 | ⟨h1, h2⟩
        · clear hp
          go_wp2_with fail
          go_ret
          exact ⟨rfl, rfl⟩
        · clear hp
          go_wp2_with fail
          go_ret
          exact ⟨rfl, rfl⟩
      · have hu2 := hide ((unhide hu).trans (upto_step hlt hp))
        rw [dg_eq] at hp
        have h1 : (48 : Int) ≤ (s[k].toNat : Int) := by simp at hp; omega
        have h2 : (s[k].toNat : Int) ≤ 57 := by simp at hp; omega
        clear hp hu
        go_wp2_with fail
        go_roundw
        case rel => exact ⟨k + 1, by omega, by omega, by go_num, hu2, trivial⟩
        case measure => simp [intOf]; omega
    · have hlt' : ¬ (k : Int) < (s.size : Int) := by omega
      have hu2 := (unhide hu).trans (upto_end (by omega))
      clear hu
      subst hu2
      go_wp2_with fail
      go_ret
      exact ⟨rfl, rfl⟩

/-- a < b, a > b: by cmpL -/
theorem bytes_any (a b : ByteArray) (w : World) :
    Calls Tryd.prog 75 #[.string a, .string b] w fun e w' => e = .returned (.int .i64 (cmpL a.data.toList b.data.toList)) ∧ w' = w := by
  have h1 := less_eq a.data.toList b.data.toList
  have h2 : (a.data.toList == b.data.toList) = decide (cmpL a.data.toList b.data.toList = 0) := by
    rw [Bool.eq_iff_iff]; simp [cmpL_zero]
  rw [← Go.ByteArray.toList_eq, ← Go.ByteArray.toList_eq] at h1 h2 ⊢
  have hr := good_cmpL.rg a.toList b.toList
  generalize cmpL a.toList b.toList = x at *
  rcases hr with rfl | rfl | rfl
  all_goals
    simp only [Int.reduceNeg, Int.reduceEq, decide_true, decide_false] at h1 h2
    go_enter Tryd.func75, Tryd.ntmps75
    go_wp2_with fail
    go_ret
    exact ⟨rfl, rfl⟩
end Go.Proofs.YtjfjhpakkflceaaDoor.Ky
