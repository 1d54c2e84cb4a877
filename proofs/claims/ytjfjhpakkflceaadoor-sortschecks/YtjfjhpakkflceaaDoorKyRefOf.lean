/- What the document's Of answers. -/
import Derived.Test.YtjfjhpakkflceaaDoorKyRefNum
import Derived.Test.YtjfjhpakkflceaaDoorLnRefSplit
namespace Go.Proofs.YtjfjhpakkflceaaDoor.Ky
open Go.RowKit Go.Shelf

attribute [local go_sem] Oper.semAt_some

/-! ### a number, byte by byte -/
def isAt (l : Bs) (a : Nat) (c : UInt8) : Bool := decide (l[a]? = some c)
theorem cut1_at (c : UInt8) (l : Bs) (a : Nat) : cut1 c (l.drop a) = (l.drop (if isAt l a c then a + 1 else a), isAt l a c) := by
  unfold isAt
  by_cases h : a < l.length
  · rw [List.drop_eq_getElem_cons h, List.getElem?_eq_getElem h]
    unfold cut1
    by_cases hc : l[a] = c
    · simp [hc]
    · simp only [if_neg hc, Option.some.injEq, decide_eq_false hc]
      rw [if_neg (by simp), List.drop_eq_getElem_cons h]
  · rw [List.getElem?_eq_none (by omega)]
    simp [List.drop_eq_nil_of_le (show l.length ≤ a by omega), cut1]
def at1 (s : Bs) : Nat := upto bl s 0
def at2 (s : Bs) : Nat := if isAt s (at1 s) 45 then at1 s + 1 else at1 s
def w0 (s : Bs) : Bs := (s.drop (at2 s)).takeWhile dg
def at3 (s : Bs) : Nat := at2 s + (w0 s).length
def p0 (s : Bs) : Bs := if isAt s (at3 s) 46 then (s.drop (at3 s + 1)).takeWhile dg else []
theorem of_eq (s : Bs) : decOf s = ⟨if noughts (w0 s) = [] ∧ behind (p0 s) = [] then 0 else if isAt s (at1 s) 45 then -1 else 1, noughts (w0 s), behind (p0 s)⟩ := by
  have e1 : s.dropWhile bl = s.drop (at1 s) := by have := upto_drop bl s 0; rw [List.drop_zero] at this; exact this.symm
  have e3 : (s.drop (at2 s)).dropWhile dg = s.drop (at3 s) := (upto_drop dg s (at2 s)).symm
  rw [dec_cut, e1, cut1_at]
  simp only
  have e2 : s.drop (if isAt s (at1 s) 45 = true then at1 s + 1 else at1 s) = s.drop (at2 s) := rfl
  rw [e2, unsigned_cut, e3, cut1_at]
  simp only
  have e4 : (if isAt s (at3 s) 46 = true then (s.drop (if isAt s (at3 s) 46 = true then at3 s + 1 else at3 s)).takeWhile dg else []) = p0 s := by
    unfold p0; split <;> rfl
  rw [e4]; rfl
theorem isAt_le {l : Bs} {a : Nat} {c : UInt8} (h : isAt l a c = true) : a < l.length := by
  unfold isAt at h
  simp only [decide_eq_true_eq] at h
  exact (List.getElem?_eq_some_iff.1 h).1
/-- three ways -/
theorem isAt_ways (s : ByteArray) (a : Nat) (c : UInt8) (d : Int) (hd : (c.toNat : Int) = d) : (isAt s.data.toList a c = true ∧ (a : Int) < s.size ∧ ∃ h : a < s.size, (s[a].toNat : Int) = d) ∨ (isAt s.data.toList a c = false ∧ ((a : Int) < s.size ∧ ∃ h : a < s.size, ¬ (s[a].toNat : Int) = d)) ∨ (isAt s.data.toList a c = false ∧ ¬ (a : Int) < s.size) := by
  subst hd
  unfold isAt
  by_cases h : a < s.size
  · have hl : a < s.data.toList.length := h
    have e : s.data.toList[a] = s[a] := rfl
    rw [List.getElem?_eq_getElem hl, e]
    by_cases hc : s[a] = c
    · exact .inl ⟨by simp [hc], by omega, h, by rw [hc]⟩
    · exact .inr (.inl ⟨by simp [hc], by omega, h, fun q => hc (UInt8.toNat_inj.1 (by omega))⟩)
  · have hl : ¬ a < s.data.toList.length := h
    exact .inr (.inr ⟨by rw [List.getElem?_eq_none (by omega)]; simp, by omega⟩)
theorem at_le (s : Bs) : at1 s ≤ s.length ∧ at2 s ≤ s.length ∧ at3 s ≤ s.length := by
  have h1 : at1 s ≤ s.length := (upto_le bl s 0 (Nat.zero_le _)).2
  have h2 : at2 s ≤ s.length := by
    unfold at2; split
    · rename_i h; exact isAt_le h
    · exact h1
  exact ⟨h1, h2, (upto_le dg s (at2 s) h2).2⟩

theorem noughts_ways (X : ByteArray) : (noughts X.data.toList = X.data.toList ∧ ((X.size : Int) = 0 ∨ ((0 : Int) < X.size ∧ ∃ h : 0 < X.size, ¬ (X[0].toNat : Int) = 48))) ∨ ((0 : Int) < X.size ∧ (∃ h : 0 < X.size, (X[0].toNat : Int) = 48) ∧ noughts (X.extract 1 X.size).data.toList = noughts X.data.toList) := by
  by_cases h : 0 < X.size
  · have hl : 0 < X.data.toList.length := h
    have e : X.data.toList = X[0] :: X.data.toList.drop 1 := List.drop_eq_getElem_cons (l := X.data.toList) (i := 0) hl
    have e2 : (X.extract 1 X.size).data.toList = X.data.toList.drop 1 := by rw [← Ln.bt_drop']; rfl
    by_cases hc : X[0] = 48
    · exact .inr ⟨by omega, ⟨h, by rw [hc]; rfl⟩, by have q := congrArg noughts e; rw [hc, noughts_step] at q; rw [e2, q]⟩
    · exact .inl ⟨by rw [e]; exact noughts_stop _ hc, .inr ⟨by omega, h, fun q => hc (UInt8.toNat_inj.1 (by rw [show (48 : UInt8).toNat = 48 from rfl]; omega))⟩⟩
  · have e : X.data.toList = [] := List.eq_nil_of_length_eq_zero (by have : X.data.toList.length = X.size := rfl; omega)
    exact .inl ⟨by rw [e]; rfl, .inl (by omega)⟩
theorem behind_ways (X : ByteArray) : (behind X.data.toList = X.data.toList ∧ ((X.size : Int) = 0 ∨ ((0 : Int) < X.size ∧ ∃ h : X.size - 1 < X.size, ¬ (X[X.size - 1].toNat : Int) = 48))) ∨ ((0 : Int) < X.size ∧ (∃ h : X.size - 1 < X.size, (X[X.size - 1].toNat : Int) = 48) ∧ behind (X.extract 0 (X.size - 1)).data.toList = behind X.data.toList) := by
  by_cases h : 0 < X.size
  · have h1 : X.size - 1 < X.size := by omega
    have hl : X.size - 1 < X.data.toList.length := h1
    have e : X.data.toList = X.data.toList.take (X.size - 1) ++ [X[X.size - 1]] := by
      have := List.take_succ_eq_append_getElem hl
      rw [List.take_of_length_le (by have : X.data.toList.length = X.size := rfl; omega)] at this
      exact this
    have e2 : (X.extract 0 (X.size - 1)).data.toList = X.data.toList.take (X.size - 1) := by
      have := Ln.bt_extract X 0 (X.size - 1)
      rw [this]; rfl
    by_cases hc : X[X.size - 1] = 48
    · exact .inr ⟨by omega, ⟨h1, by rw [hc]; rfl⟩, by rw [e2, ← behind_step, ← hc, ← e]⟩
    · exact .inl ⟨by rw [e]; exact behind_stop _ hc, .inr ⟨by omega, h1, fun q => hc (UInt8.toNat_inj.1 (by rw [show (48 : UInt8).toNat = 48 from rfl]; omega))⟩⟩
  · have e : X.data.toList = [] := List.eq_nil_of_length_eq_zero (by have : X.data.toList.length = X.size := rfl; omega)
    exact .inl ⟨by rw [e]; rfl, .inl (by omega)⟩
/-- the world while the number lies there -/
abbrev Z (w : World) (x : Int) (y z : ByteArray) : World := (w.alloc (.cells #[.int .i64 0, .string { data := #[] }, .string { data := #[] }] 160)).alloc (.cells #[.int .i64 x, .string y, .string z] 160)

theorem res_of (tmps : Array Value) (w : World) (x : Int) (y z : ByteArray) (ht : tmps.getD 2 undef = .pointer (some ⟨w.heap.size, 0, none⟩)) :
    (results Tryd.f112 tmps).run Tryd.prog ((w.alloc (.cells #[.int .i64 x, .string y, .string z] 160)).alloc (.cells #[.int .i64 x, .string y, .string z] 160)) = .ok (.agg #[.int .i64 x, .string y, .string z]) ((w.alloc (.cells #[.int .i64 x, .string y, .string z] 160)).alloc (.cells #[.int .i64 x, .string y, .string z] 160)) := by
  have r : ((w.alloc (.cells #[.int .i64 x, .string y, .string z] 160)).alloc (.cells #[.int .i64 x, .string y, .string z] 160)).heap[w.heap.size]? = some (.cells #[.int .i64 x, .string y, .string z] 160 (0, 0)) := (Below.heap_alloc _ _ _ (by simp)).trans (heap_alloc_new w _)
  generalize ((w.alloc (.cells #[.int .i64 x, .string y, .string z] 160)).alloc (.cells #[.int .i64 x, .string y, .string z] 160)) = W at *
  have h0 : W.cell? ⟨w.heap.size, 0, none⟩ = some (.int .i64 x) := cell_of_row _ _ 0 _ _ _ r
  have h1 : W.cell? ⟨w.heap.size, 1, none⟩ = some (.string y) := cell_of_row _ _ 1 _ _ _ r
  have h2 : W.cell? ⟨w.heap.size, 2, none⟩ = some (.string z) := cell_of_row _ _ 2 _ _ _ r
  rw [Array.getD_eq_getD_getElem?] at ht
  simp [results, Tryd.f112, go_sem, ht, h0, h1, h2]

set_option maxRecDepth 100000 in
set_option maxHeartbeats 400000 in
theorem of_any (s : ByteArray) (w : World) (hs : s.size ≤ 1073741824) :
    Calls Tryd.prog 112 #[.string s] w fun e w' => e = .returned (.agg #[.int .i64 (decOf s.data.toList).sign, .string (Ln.bt (decOf s.data.toList).whole), .string (Ln.bt (decOf s.data.toList).part)]) ∧ Below w.heap.size w w' := by
  have C : Hid (∀ (c : UInt8) (w : World), Calls Tryd.prog 79 #[.int .u8 (c.toNat : Int)] w fun e w' => e = .returned (.bool (bl c)) ∧ w' = w) := rblank_any
  have hle := at_le s.data.toList
  rw [of_eq]
  obtain ⟨n1, hn1⟩ : ∃ n, n = at1 s.data.toList := ⟨_, rfl⟩
  obtain ⟨n2, hn2⟩ : ∃ n, n = at2 s.data.toList := ⟨_, rfl⟩
  obtain ⟨n3, hn3⟩ : ∃ n, n = at3 s.data.toList := ⟨_, rfl⟩
  obtain ⟨A, hA⟩ : ∃ A, A = Ln.bt (w0 s.data.toList) := ⟨_, rfl⟩
  obtain ⟨B, hB⟩ : ∃ B, B = Ln.bt (p0 s.data.toList) := ⟨_, rfl⟩
  obtain ⟨mi, hmi⟩ : ∃ m, m = isAt s.data.toList n1 45 := ⟨_, rfl⟩
  obtain ⟨pt, hpt⟩ : ∃ m, m = isAt s.data.toList n3 46 := ⟨_, rfl⟩
  obtain ⟨sg, hsg⟩ : ∃ x : Int, x = if mi = true then -1 else 1 := ⟨_, rfl⟩
  have l1 : n1 ≤ s.size := by rw [hn1]; exact hle.1
  have l2 : n2 ≤ s.size := by rw [hn2]; exact hle.2.1
  have l3 : n3 ≤ s.size := by rw [hn3]; exact hle.2.2
  have l4 : (n2 : Int) + (A.size : Int) = (n3 : Int) := by rw [hn2, hn3, hA]; show (at2 s.data.toList : Int) + ((w0 s.data.toList).length : Nat) = _; unfold at3; omega
  have HM : Hid (n2 = if mi = true then n1 + 1 else n1) := by show _ = _; rw [hn2, hmi, hn1]; rfl
  have W1 := isAt_ways s n1 45 45 rfl
  have W2 := isAt_ways s n3 46 46 rfl
  rw [← hmi] at W1
  rw [← hpt] at W2
  have HW1 := hide W1
  have HW2 := hide W2
  have R1 : Hid (∀ W, Calls Tryd.prog 126 #[.string s, .int .i64 (n2 : Int)] W fun e w' => e = .returned (.string A) ∧ w' = W) := fun W => by rw [hA]; unfold w0; rw [← hn2]; exact run_any s n2 W l2 hs
  have R2 : Hid (pt = true → ∀ W, Calls Tryd.prog 126 #[.string s, .int .i64 ((n3 : Int) + 1)] W fun e w' => e = .returned (.string B) ∧ w' = W) := fun h W => by
    have h1 : n3 < s.size := by rw [hpt] at h; exact isAt_le h
    have h2 : B = Ln.bt ((s.data.toList.drop (n3 + 1)).takeWhile dg) := by rw [hB]; unfold p0; rw [← hn3, ← hpt, h]; rfl
    rw [h2]; exact run_any s (n3 + 1) W h1 hs
  have HP : Hid (pt = false → B = { data := #[] }) := fun h => by rw [hB]; unfold p0; rw [← hn3, ← hpt, h]; rfl
  have HA : Hid (w0 s.data.toList = A.data.toList) := by show _ = _; rw [hA]; rfl
  have HB : Hid (p0 s.data.toList = B.data.toList) := by show _ = _; rw [hB]; rfl
  have zB : B.size ≤ s.size := by
    rw [hB]
    show (p0 s.data.toList).length ≤ s.data.toList.length
    unfold p0
    split
    · exact Nat.le_trans (List.takeWhile_sublist _).length_le (by rw [List.length_drop]; omega)
    · exact Nat.zero_le _
  have HS : Hid ((if isAt s.data.toList (at1 s.data.toList) 45 = true then (-1 : Int) else 1) = sg) := by show _ = _; rw [hsg, hmi, hn1]
  have HSG := hide hsg
  rw [unhide HA, unhide HB, unhide HS]
  obtain ⟨U, hU⟩ : ∃ U, U = Ln.bt (noughts A.data.toList) := ⟨_, rfl⟩
  obtain ⟨V, hV⟩ : ∃ V, V = Ln.bt (behind B.data.toList) := ⟨_, rfl⟩
  have HU := hide hU
  have HV := hide hV
  have hq1 : Hid (noughts A.data.toList = U.data.toList) := by show _ = _; rw [hU]; rfl
  have hq2 : Hid (behind B.data.toList = V.data.toList) := by show _ = _; rw [hV]; rfl
  rw [unhide hq1, unhide hq2]
  obtain ⟨fs, hfs⟩ : ∃ fs : Int, fs = if U.data.toList = [] ∧ V.data.toList = [] then 0 else sg := ⟨_, rfl⟩
  rw [← hfs]
  have HF := hide hfs
  have eU : Ln.bt U.data.toList = U := rfl
  have eV : Ln.bt V.data.toList = V := rfl
  rw [eU, eV]
  clear hq1 hq2 hU hV hfs eU eV
  clear hmi hpt hA hB hn2 hn3 W1 W2 hsg HA HB HS hle
  go_enter Tryd.func112, Tryd.ntmps112
  go_upto_block 0 with fail
  have HN1 := hide hn1
  have hB0 : Hid (Below w.heap.size w (w.alloc (.cells #[.int .i64 0, .string { data := #[] }, .string { data := #[] }] 160))) := (Below.refl _ _).alloc (Nat.le_refl _) _
  clear hn1
  go_cut [3] (fun v wx => (w.alloc (.cells #[.int .i64 0, .string { data := #[] }, .string { data := #[] }] 160)) = wx ∧ v = .int .i64 (n1 : Int))
  case first =>
    go_wp2_with fail
    go_loopg [3] s.size (fun g v wx => (w.alloc (.cells #[.int .i64 0, .string { data := #[] }, .string { data := #[] }] 160)) = wx ∧ ∃ k : Nat, k ≤ s.size ∧ g = s.size - k ∧ v = .int .i64 k ∧ Hid (n1 = upto bl s.data.toList k))
    case atStart => exact ⟨rfl, 0, Nat.zero_le _, rfl, rfl, HN1⟩
    case round =>
      obtain ⟨rfl, k, hk, rfl, rfl, hu⟩ := hrel
      clear HN1
      by_cases hlt : k < s.size
      · have hlt' : (k : Int) < (s.size : Int) := by omega
        have HC := hide (unhide C s[k])
        cases hp : bl s[k]
        · rw [hp] at HC
          have hu2 := hide ((unhide hu).trans (upto_stop hlt hp))
          clear hp hu C
          go_wp2_with fail
          refine (unhide HC _).mono ?_
          rintro e w' ⟨rfl, hw⟩
          rw [hw]
          go_wp2_with fail
          go_meet
          exact ⟨rfl, by rw [unhide hu2]⟩
        · rw [hp] at HC
          have hu2 := hide ((unhide hu).trans (upto_step hlt hp))
          clear hp hu C
          go_wp2_with fail
          refine (unhide HC _).mono ?_
          rintro e w' ⟨rfl, hw⟩
          rw [hw]
          go_wp2_with fail
          go_roundg (s.size - (k + 1))
          case measure => omega
          case rel => exact ⟨rfl, k + 1, by omega, rfl, by go_num, hu2⟩
      · have hlt' : ¬ (k : Int) < (s.size : Int) := by omega
        have hu2 := hide ((unhide hu).trans (upto_end (by omega)))
        clear hu C
        go_wp2_with fail
        go_meet
        exact ⟨rfl, by rw [unhide hu2]⟩
  case rest =>
    obtain ⟨rfl, rfl⟩ := hcut
    clear C HN1
    go_upto_region 5 with fail
    go_cut [27] (fun v wx => Z w 1 { data := #[] } { data := #[] } = wx ∧ v = .bool mi)
    case first =>
      have hw := unhide HW1
      clear HW1 HW2 R1 R2 HP HM
      rcases hw with ⟨rfl, h1, h2, h3⟩ | ⟨rfl, h1, h2, h3⟩ | ⟨rfl, h1⟩
      all_goals
        go_wp2_with fail
        go_meet
        first | exact ⟨rfl, rfl⟩ | exact ⟨rfl, by simp [h3]⟩
    case rest =>
      obtain ⟨rfl, rfl⟩ := hcut
      go_upto_if 27 with fail
      go_cut [3] (fun v wx => Z w sg { data := #[] } { data := #[] } = wx ∧ v = .int .i64 (n2 : Int))
      case first =>
        have hm := unhide HM
        have hg := unhide HSG
        clear HM HSG HW1 HW2 R1 R2 HP
        cases mi
        · obtain rfl : n2 = n1 := by simpa using hm
          obtain rfl : sg = 1 := by simpa using hg
          clear hm hg
          go_wp2_with fail
          go_meet
          exact ⟨rfl, rfl⟩
        · obtain rfl : n2 = n1 + 1 := by simpa using hm
          obtain rfl : sg = -1 := by simpa using hg
          clear hm hg
          go_wp2_with fail
          go_meet
          exact ⟨rfl, by go_num⟩
      case rest =>
        obtain ⟨rfl, rfl⟩ := hcut
        clear HW1 HM HSG
        go_wp2_with fail
        refine (unhide R1 _).mono ?_
        rintro e w' ⟨rfl, hw⟩
        rw [hw]
        clear hw R1
        go_upto_region 10 with fail
        go_cut [49] (fun v wx => Z w sg A { data := #[] } = wx ∧ v = .bool pt)
        case first =>
          have hw := unhide HW2
          clear HW2 R2 HP
          rcases hw with ⟨rfl, h1, h2, h3⟩ | ⟨rfl, h1, h2, h3⟩ | ⟨rfl, h1⟩
          all_goals
            go_wp2_with fail
            go_meet
            first | exact ⟨rfl, rfl⟩ | exact ⟨rfl, by simp [h3]⟩
        case rest =>
          obtain ⟨rfl, rfl⟩ := hcut
          go_upto_if 49 with fail
          go_cut [3] (fun v wx => Z w sg A B = wx ∧ v = .int .i64 (n3 : Int))
          case first =>
            have hp := unhide HP
            have hr := unhide R2
            have l5 : pt = true → n3 < s.size := fun h => by
              rcases unhide HW2 with ⟨_, h1, _⟩ | ⟨h0, _⟩ | ⟨h0, _⟩
              · omega
              · rw [h0] at h; cases h
              · rw [h0] at h; cases h
            clear HP R2 HW2
            cases pt
            · obtain rfl := hp rfl
              clear hp hr l5
              go_wp2_with fail
              go_meet
              exact ⟨rfl, rfl⟩
            · have HR := hide (hr rfl)
              have l6 := l5 rfl
              clear hp hr l5
              go_wp2_with fail
              refine (unhide HR _).mono ?_
              rintro e w' ⟨rfl, hw⟩
              rw [hw]
              go_wp2_with fail
              go_meet
              exact ⟨rfl, rfl⟩
          case rest =>
            obtain ⟨rfl, rfl⟩ := hcut
            clear HW2 R2 HP
            have zA : A.size ≤ s.size := by omega
            go_upto_block 2 with fail
            go_cut [] (fun wx => Z w sg U B = wx)
            case first =>
              go_wp2_with fail
              go_loopg [] A.size (fun g wx => ∃ X : ByteArray, Z w sg X B = wx ∧ X.size ≤ A.size ∧ g = X.size ∧ Hid (U = Ln.bt (noughts X.data.toList)))
              case atStart => exact ⟨A, rfl, Nat.le_refl _, rfl, HU⟩
              case round =>
                obtain ⟨X, rfl, hX, rfl, hu⟩ := hrel
                have hw := noughts_ways X
                rcases hw with ⟨h0, h1 | ⟨h1, h2, h3⟩⟩ | ⟨h1, ⟨h2, h3⟩, h4⟩
                · obtain rfl : U = X := by rw [unhide hu, h0]; rfl
                  clear hu h0 HU
                  go_wp2_with fail
                  go_meet
                  exact rfl
                · obtain rfl : U = X := by rw [unhide hu, h0]; rfl
                  clear hu h0 HU
                  go_wp2_with fail
                  go_meet
                  exact rfl
                · have hu2 : Hid (U = Ln.bt (noughts (X.extract 1 X.size).data.toList)) := by show _ = _; rw [h4]; exact unhide hu
                  have hz : (X.extract 1 X.size).size = X.size - 1 := by simp
                  have HZ := hide hz
                  clear hu h4 HU hz
                  go_wp2_with fail
                  go_roundg (X.size - 1)
                  case measure => omega
                  case rel => exact ⟨X.extract 1 X.size, rfl, by rw [unhide HZ]; omega, (unhide HZ).symm, hu2⟩
            case rest =>
              obtain rfl := hcut
              go_upto_block 4 with fail
              go_cut [] (fun wx => Z w sg U V = wx)
              case first =>
                go_wp2_with fail
                go_loopg [] B.size (fun g wx => ∃ X : ByteArray, Z w sg U X = wx ∧ X.size ≤ B.size ∧ g = X.size ∧ Hid (V = Ln.bt (behind X.data.toList)))
                case atStart => exact ⟨B, rfl, Nat.le_refl _, rfl, HV⟩
                case round =>
                  obtain ⟨X, rfl, hX, rfl, hu⟩ := hrel
                  have hw := behind_ways X
                  rcases hw with ⟨h0, h1 | ⟨h1, h2, h3⟩⟩ | ⟨h1, ⟨h2, h3⟩, h4⟩
                  · obtain rfl : V = X := by rw [unhide hu, h0]; rfl
                    clear hu h0 HV HU
                    go_wp2_with fail
                    go_meet
                    exact rfl
                  · obtain rfl : V = X := by rw [unhide hu, h0]; rfl
                    clear hu h0 HV HU
                    have h5 : (V.size : Int) - 1 = ((V.size - 1 : Nat) : Int) := by omega
                    go_wp2_with fail
                    go_meet
                    exact rfl
                  · have hu2 : Hid (V = Ln.bt (behind (X.extract 0 (X.size - 1)).data.toList)) := by show _ = _; rw [h4]; exact unhide hu
                    have hz : (X.extract 0 (X.size - 1)).size = X.size - 1 := by simp
                    have HZ := hide hz
                    have h5 : (X.size : Int) - 1 = ((X.size - 1 : Nat) : Int) := by omega
                    clear hu h4 HV hz HU
                    go_wp2_with fail
                    go_roundg (X.size - 1)
                    case measure => omega
                    case rel => exact ⟨X.extract 0 (X.size - 1), rfl, by rw [unhide HZ]; omega, (unhide HZ).symm, hu2⟩
              case rest =>
                obtain rfl := hcut
                clear HU HV
                have hBB : Hid (∀ x y z : Value, Below w.heap.size w ((w.alloc (.cells #[x, y, z] 160)).alloc (.cells #[x, y, z] 160))) := fun x y z => ((Below.refl _ _).alloc (Nat.le_refl _) _).alloc (by simp) _
                have hf := unhide HF
                clear HF hB0
                have tU : U.toList = U.data.toList := ByteArray.toList_eq U
                have tV : V.toList = V.data.toList := ByteArray.toList_eq V
                cases hU0 : U.toList.isEmpty
                · obtain rfl : fs = sg := by rw [hf, if_neg]; rintro ⟨q, _⟩; rw [tU, q] at hU0; cases hU0
                  clear hf tU tV
                  go_wp2_with fail
                  exact bodyPost_ret (res_of _ w _ _ _ rfl) rfl ⟨rfl, unhide hBB _ _ _⟩
                · cases hV0 : V.toList.isEmpty
                  · obtain rfl : fs = sg := by rw [hf, if_neg]; rintro ⟨_, q⟩; rw [tV, q] at hV0; cases hV0
                    clear hf tU tV
                    go_wp2_with fail
                    exact bodyPost_ret (res_of _ w _ _ _ rfl) rfl ⟨rfl, unhide hBB _ _ _⟩
                  · obtain rfl : fs = 0 := by rw [hf, if_pos ⟨by rw [← tU]; exact List.isEmpty_iff.1 hU0, by rw [← tV]; exact List.isEmpty_iff.1 hV0⟩]
                    clear hf tU tV
                    go_wp2_with fail
                    exact bodyPost_ret (res_of _ w _ _ _ rfl) rfl ⟨rfl, unhide hBB _ _ _⟩
end Go.Proofs.YtjfjhpakkflceaaDoor.Ky
