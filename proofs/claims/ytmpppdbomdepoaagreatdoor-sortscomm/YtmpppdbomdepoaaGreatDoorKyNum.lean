/- What readNumber, compareSizes and Number answer. -/
import Derived.Test.YtmpppdbomdepoaaGreatDoorKyBase
import Derived.Test.YtmpppdbomdepoaaGreatDoorKyShelf
import Derived.Shelf.Strings.SlTrimAscii
namespace Go.Proofs.YtmpppdbomdepoaaGreatDoor.Ky
open Go.RowKit Go.Shelf

attribute [local go_sem] Oper.semAt_some

theorem Tryz.info256 : (Tryz.prog.info? 205).map (fun i => (i.zero, i.size)) = some (some (.agg (Array.replicate 256 (.bool false))), 256) := by kernel_rfl
theorem bt_list (l : Bs) : (Ln.bt l).data.toList = l := rfl
theorem bt_back (s : ByteArray) : Ln.bt s.data.toList = s := rfl
theorem contains_bl : (fun c : UInt8 => ([32, 9] : List UInt8).contains c) = bl := by
  funext c
  unfold bl
  by_cases h1 : c = 32
  · subst h1; rfl
  · by_cases h2 : c = 9
    · subst h2; rfl
    · simp [h1, h2]
theorem trimBlanks_any (s : ByteArray) (w : World) :
    Calls Tryz.prog 134 #[.string s, .string { data := #[32, 9] }] w fun e w' => e = .returned (.string (Ln.bt (s.data.toList.dropWhile bl))) ∧ Below w.heap.size w w' := by
  have h := Any.strings_TrimLeft_laid Tryz.lays161 Tryz.info256 s { data := #[32, 9] } w (by decide) (ascii_of_all (by decide))
  have e : Lib.trimLeftS s.data.toList [32, 9] = s.data.toList.dropWhile bl := by unfold Lib.trimLeftS; rw [contains_bl]
  refine h.mono fun e1 w' h2 => ⟨?_, h2.2⟩
  rw [h2.1, ← e]; rfl
theorem cmpL_eq : ∀ a b, Lib.compareBytes a b = cmpL a b
  | [], [] => rfl
  | [], _ :: _ => rfl
  | _ :: _, [] => rfl
  | a :: s, b :: t => by rw [Lib.compareBytes, cmpL, cmpL_eq s t]
theorem cmpI_eq (a b : Int) : Lib.compareInt a b = cmpI a b := by
  unfold Lib.compareInt cmpI; rfl
theorem compare_any (a b : ByteArray) (w : World) :
    Calls Tryz.prog 75 #[.string a, .string b] w fun e w' => e = .returned (.int .i64 (cmpL a.data.toList b.data.toList)) ∧ w' = w := by
  rw [← cmpL_eq]; exact Tryz.strings_Compare a b w
/-- without a byte ahead, if it is there -/
def cut1 (c : UInt8) (s : Bs) : Bs × Bool := match s with | [] => ([], false) | d :: r => if d = c then (r, true) else (d :: r, false)
theorem cutOne_any (s : ByteArray) (c : UInt8) (w : World) :
    Calls Tryz.prog 161 #[.string s, .string { data := #[c] }] w fun e w' => e = .returned (.tuple #[.string (Ln.bt (cut1 c s.data.toList).1), .bool (cut1 c s.data.toList).2]) ∧ w' = w := by
  refine (Tryz.strings_CutPrefix s { data := #[c] } w).mono fun e w' h => ⟨?_, h.2⟩
  rw [h.1]
  have e : Lib.trimPrefix s.data.toList [c] = (cut1 c s.data.toList).1 ∧ Lib.hasPrefix s.data.toList [c] = (cut1 c s.data.toList).2 := by
    unfold Lib.trimPrefix Lib.hasPrefix cut1
    cases s.data.toList with
    | nil => exact ⟨rfl, rfl⟩
    | cons d r =>
      by_cases h : d = c
      · subst h; simp [List.isPrefixOf]
      · have h2 : (c == d) = false := by simpa using fun e => h e.symm
        simp [List.isPrefixOf, h, h2]
  have e1 := e.1
  have e2 := e.2
  show Ending.returned (.tuple #[.string ⟨(Lib.trimPrefix s.data.toList [c]).toArray⟩, .bool (Lib.hasPrefix s.data.toList [c])]) = _
  rw [e1, e2]; rfl
/-- a number as a value -/
def nv (d : Dec) : Value := .agg #[.bool (decide (d.sign = -1)), .string (Ln.bt d.whole), .string (Ln.bt d.part)]
theorem dec_cut (s : Bs) : decOf s = (let q := cut1 45 (s.dropWhile bl); let u := unsigned q.1; ⟨if u.1 = [] ∧ u.2 = [] then 0 else if q.2 then -1 else 1, u.1, u.2⟩) := by
  unfold decOf cut1
  cases h : s.dropWhile bl with
  | nil => rfl
  | cons c r =>
    by_cases h45 : c = 45
    · subst h45; rfl
    · simp only [h45, if_false]
      split
      · rename_i hh; exact absurd (List.cons.inj hh).1 h45
      · simp
theorem unsigned_cut (r : Bs) : unsigned r = (noughts (r.takeWhile dg), behind (let q := cut1 46 (r.dropWhile dg); if q.2 then q.1.takeWhile dg else [])) := by
  unfold unsigned cut1
  congr 2
  cases h : r.dropWhile dg with
  | nil => rfl
  | cons c t =>
    by_cases h46 : c = 46
    · subst h46; rfl
    · simp only [h46, if_false]
      split
      · rename_i hh; exact absurd (List.cons.inj hh).1 h46
      · simp

theorem res_num (tmps : Array Value) (W : World) (b : Nat) {x : Bool} {y z : ByteArray} (ht : tmps.getD 2 undef = .pointer (some ⟨b, 0, none⟩)) (h0 : W.cell? ⟨b, 0, none⟩ = some (.bool x)) (h1 : W.cell? ⟨b, 1, none⟩ = some (.string y)) (h2 : W.cell? ⟨b, 2, none⟩ = some (.string z)) :
    (results Tryz.f143 tmps).run Tryz.prog W = .ok (.agg #[.bool x, .string y, .string z]) W := by
  rw [Array.getD_eq_getD_getElem?] at ht
  simp [results, Tryz.f143, go_sem, ht, h0, h1, h2]
theorem set_num (W : World) (b : Nat) {x : Bool} {y z : ByteArray} {x0 y0 z0 : Value} (h0 : W.cell? ⟨b, 0, none⟩ = some x0) (h1 : W.cell? ⟨b, 1, none⟩ = some y0) (h2 : W.cell? ⟨b, 2, none⟩ = some z0) (tmps : Array Value) (ht : tmps.getD 2 undef = .pointer (some ⟨b, 0, none⟩)) :
    (results Tryz.f143 tmps).run Tryz.prog (((W.setCell ⟨b, 0, none⟩ (.bool x)).setCell ⟨b, 1, none⟩ (.string y)).setCell ⟨b, 2, none⟩ (.string z)) = .ok (.agg #[.bool x, .string y, .string z]) (((W.setCell ⟨b, 0, none⟩ (.bool x)).setCell ⟨b, 1, none⟩ (.string y)).setCell ⟨b, 2, none⟩ (.string z)) :=
  res_num tmps _ b ht (by simp [go_sem, h0]) (by simp [go_sem, h1]) (by simp [go_sem, h2])
theorem below_num {w W : World} (h : Below w.heap.size w W) (x y z : Value) : Below w.heap.size w (((W.setCell ⟨w.heap.size, 0, none⟩ x).setCell ⟨w.heap.size, 1, none⟩ y).setCell ⟨w.heap.size, 2, none⟩ z) :=
  ((h.setCell (p := ⟨w.heap.size, 0, none⟩) (Nat.le_refl _) _).setCell (p := ⟨w.heap.size, 1, none⟩) (Nat.le_refl _) _).setCell (p := ⟨w.heap.size, 2, none⟩) (Nat.le_refl _) _

set_option maxRecDepth 100000 in
set_option maxHeartbeats 1000000 in
theorem readNumber_any (s : ByteArray) (w : World) (hs : s.size ≤ 1073741824) :
    Calls Tryz.prog 143 #[.string s] w fun e w' => e = .returned (nv (decOf s.data.toList)) ∧ Below w.heap.size w w' := by
  obtain ⟨A, hA⟩ : ∃ A, A = Ln.bt (s.data.toList.dropWhile bl) := ⟨_, rfl⟩
  obtain ⟨B, hB⟩ : ∃ B, B = Ln.bt (cut1 45 A.data.toList).1 := ⟨_, rfl⟩
  obtain ⟨mi, hmi⟩ : ∃ m, m = (cut1 45 A.data.toList).2 := ⟨_, rfl⟩
  obtain ⟨X, hX⟩ : ∃ X, X = Ln.bt (B.data.toList.takeWhile dg) := ⟨_, rfl⟩
  obtain ⟨Y, hY⟩ : ∃ Y, Y = Ln.bt (B.data.toList.dropWhile dg) := ⟨_, rfl⟩
  obtain ⟨Z, hZ⟩ : ∃ Z, Z = Ln.bt (cut1 46 Y.data.toList).1 := ⟨_, rfl⟩
  obtain ⟨ok, hok⟩ : ∃ m, m = (cut1 46 Y.data.toList).2 := ⟨_, rfl⟩
  obtain ⟨P0, hP0⟩ : ∃ P, P = Ln.bt (if ok then Z.data.toList.takeWhile dg else []) := ⟨_, rfl⟩
  obtain ⟨R0, hR0⟩ : ∃ R, R = Ln.bt (Z.data.toList.dropWhile dg) := ⟨_, rfl⟩
  obtain ⟨U, hU⟩ : ∃ U, U = Ln.bt (noughts X.data.toList) := ⟨_, rfl⟩
  obtain ⟨V, hV⟩ : ∃ V, V = Ln.bt (behind P0.data.toList) := ⟨_, rfl⟩
  have sz1 : A.size ≤ s.size := by rw [hA]; exact dropWhile_le _
  have sz2 : B.size ≤ A.size := by
    rw [hB]
    show ((cut1 45 A.data.toList).1).length ≤ A.data.toList.length
    unfold cut1
    cases A.data.toList with
    | nil => exact Nat.le_refl _
    | cons c r => simp only; split <;> simp
  have sz3 : Y.size ≤ B.size := by rw [hY]; exact dropWhile_le _
  have sz4 : Z.size ≤ Y.size := by
    rw [hZ]
    show ((cut1 46 Y.data.toList).1).length ≤ Y.data.toList.length
    unfold cut1
    cases Y.data.toList with
    | nil => exact Nat.le_refl _
    | cons c r => simp only; split <;> simp
  have szP : P0.size ≤ 1073741824 := by
    rw [hP0]
    show (if ok then Z.data.toList.takeWhile dg else []).length ≤ _
    have : (Z.data.toList.takeWhile dg).length ≤ Z.data.toList.length := (List.takeWhile_sublist _).length_le
    have h2 : Z.data.toList.length = Z.size := rfl
    cases ok
    · simp
    · simp only [if_true]; omega
  have C1 : Hid (∀ w, Calls Tryz.prog 134 #[.string s, .string { data := #[32, 9] }] w fun e w' => e = .returned (.string A) ∧ Below w.heap.size w w') := fun w => by rw [hA]; exact trimBlanks_any s w
  have C2 : Hid (∀ w, Calls Tryz.prog 161 #[.string A, .string { data := #[45] }] w fun e w' => e = .returned (.tuple #[.string B, .bool mi]) ∧ w' = w) := fun w => by rw [hB, hmi]; exact cutOne_any A 45 w
  have C3 : Hid (∀ w, Calls Tryz.prog 162 #[.string B] w fun e w' => e = .returned (.tuple #[.string X, .string Y]) ∧ Below w.heap.size w w') := fun w => by rw [hX, hY]; exact cutDigits_any B w (by omega)
  have C4 : Hid (∀ w, Calls Tryz.prog 161 #[.string Y, .string { data := #[46] }] w fun e w' => e = .returned (.tuple #[.string Z, .bool ok]) ∧ w' = w) := fun w => by rw [hZ, hok]; exact cutOne_any Y 46 w
  have C5 : Hid (ok = true → ∀ w, Calls Tryz.prog 162 #[.string Z] w fun e w' => e = .returned (.tuple #[.string P0, .string R0]) ∧ Below w.heap.size w w') := fun h w => by rw [hP0, hR0, if_pos h]; exact cutDigits_any Z w (by omega)
  have C6 : Hid (∀ w, Calls Tryz.prog 134 #[.string X, .string { data := #[48] }] w fun e w' => e = .returned (.string U) ∧ w' = w) := fun w => by rw [hU]; exact Tryz.strings_TrimLeft_one X 48 (by decide) w
  have C7 : Hid (∀ w, Calls Tryz.prog 163 #[.string P0, .string { data := #[48] }] w fun e w' => e = .returned (.string V) ∧ w' = w) := fun w => by rw [hV]; exact Tryz.strings_TrimRight_one P0 48 (by decide) w (by omega)
  have hP1 : ok = false → P0 = { data := #[] } := fun h => by rw [hP0, h]; rfl
  have hD : Hid (nv (decOf s.data.toList) = .agg #[.bool (mi && (!decide (U.data.toList = []) || !decide (V.data.toList = []))), .string U, .string V]) := by
    show _ = _
    have e0 : unsigned (cut1 45 (s.data.toList.dropWhile bl)).1 = (U.data.toList, V.data.toList) := by
      rw [unsigned_cut]
      have a1 : A.data.toList = s.data.toList.dropWhile bl := by rw [hA]; rfl
      have b1 : B.data.toList = (cut1 45 (s.data.toList.dropWhile bl)).1 := by rw [hB, a1]; rfl
      rw [← b1]
      have u1 : U.data.toList = noughts (B.data.toList.takeWhile dg) := by rw [hU, hX]; rfl
      have y1 : Y.data.toList = B.data.toList.dropWhile dg := by rw [hY]; rfl
      have z1 : Z.data.toList = (cut1 46 (B.data.toList.dropWhile dg)).1 := by rw [hZ, y1]; rfl
      have k1 : ok = (cut1 46 (B.data.toList.dropWhile dg)).2 := by rw [hok, y1]
      have v1 : V.data.toList = behind (if ok then Z.data.toList.takeWhile dg else []) := by rw [hV, hP0]; rfl
      rw [u1, v1, z1, k1]
    have m1 : (cut1 45 (s.data.toList.dropWhile bl)).2 = mi := by rw [hmi, hA]; rfl
    rw [dec_cut]
    simp only [e0, m1, nv, bt_back]
    congr 3
    by_cases h1 : U.data.toList = [] <;> by_cases h2 : V.data.toList = [] <;> cases mi <;> simp [h1, h2]
  rw [unhide hD]
  clear hA hB hmi hX hY hZ hok hP0 hR0 hU hV hD szP sz1 sz2 sz3 sz4
  go_enter Tryz.func143, Tryz.ntmps143
  go_wp2_with fail
  refine (unhide C1 _).mono ?_
  rintro e w1 ⟨rfl, b1⟩
  go_wp2_with fail
  refine (unhide C2 _).mono ?_
  rintro e w2 ⟨rfl, rfl⟩
  go_wp2_with fail
  refine (unhide C3 _).mono ?_
  rintro e w3 ⟨rfl, b3⟩
  go_wp2_with fail
  refine (unhide C4 _).mono ?_
  rintro e w4 ⟨rfl, rfl⟩
  have hk0 : w.heap.size < w2.heap.size := by have := b1.size; simp at this; omega
  have r2 : w2.heap[w.heap.size]? = some (.cells #[.bool false, .string { data := #[] }, .string { data := #[] }] 193 (0, 0)) := (b1.block _ (by simp)).trans (heap_alloc_new w _)
  have r4 := (b3.block _ hk0).trans r2
  have hB4 : Below w.heap.size w w4 := (((Below.refl _ _).alloc (Nat.le_refl _) _).trans (b1.mono (by simp))).trans (b3.mono (by omega))
  clear r2 b1 C1 C2 C3 C4
  cases ok
  · obtain rfl := hP1 rfl
    clear hP1 C5
    go_wp2_with fail
    refine (unhide C6 _).mono ?_
    rintro e w5 ⟨rfl, rfl⟩
    go_wp2_with fail
    refine (unhide C7 _).mono ?_
    rintro e w6 ⟨rfl, rfl⟩
    clear C6 C7
    have q0 : w6.cell? ⟨w.heap.size, 0, none⟩ = some (.bool false) := cell_of_row _ _ 0 _ _ _ r4
    have q1 : w6.cell? ⟨w.heap.size, 1, none⟩ = some (.string { data := #[] }) := cell_of_row _ _ 1 _ _ _ r4
    have q2 : w6.cell? ⟨w.heap.size, 2, none⟩ = some (.string { data := #[] }) := cell_of_row _ _ 2 _ _ _ r4
    have f0 : w6.frozen? ⟨w.heap.size, 0, none⟩ = false := by simp [World.frozen?, r4]
    have f1 : w6.frozen? ⟨w.heap.size, 1, none⟩ = false := by simp [World.frozen?, r4]
    have f2 : w6.frozen? ⟨w.heap.size, 2, none⟩ = false := by simp [World.frozen?, r4]
    clear r4
    cases mi
    · go_wp2_with fail
      exact bodyPost_ret (set_num _ _ q0 q1 q2 _ rfl) rfl ⟨rfl, below_num hB4 _ _ _⟩
    · rcases U with ⟨⟨U⟩⟩
      rcases V with ⟨⟨V⟩⟩
      cases U with
      | nil =>
        cases V with
        | nil =>
          go_wp2_with fail
          exact bodyPost_ret (set_num _ _ q0 q1 q2 _ rfl) rfl ⟨rfl, below_num hB4 _ _ _⟩
        | cons c V =>
          have hne : (Ln.bt (c :: V)).toList.isEmpty = false := by rw [ByteArray.toList_eq]; rfl
          unfold Ln.bt at hne
          go_wp2_with fail
          exact bodyPost_ret (set_num _ _ q0 q1 q2 _ rfl) rfl ⟨rfl, below_num hB4 _ _ _⟩
      | cons c U =>
        have hne : (Ln.bt (c :: U)).toList.isEmpty = false := by rw [ByteArray.toList_eq]; rfl
        unfold Ln.bt at hne
        go_wp2_with fail
        exact bodyPost_ret (set_num _ _ q0 q1 q2 _ rfl) rfl ⟨rfl, below_num hB4 _ _ _⟩
  · have C5' := hide (unhide C5 rfl)
    clear hP1 C5
    go_wp2_with fail
    refine (unhide C5' _).mono ?_
    rintro e w5 ⟨rfl, b5⟩
    have r5 := (b5.block _ (Nat.lt_of_lt_of_le hk0 b3.size)).trans r4
    have hB5 := hB4.trans (b5.mono hB4.size)
    clear r4 hB4
    have r4 := r5
    have hB4 := hB5
    clear r5 hB5 C5'
    go_wp2_with fail
    refine (unhide C6 _).mono ?_
    rintro e w5 ⟨rfl, rfl⟩
    go_wp2_with fail
    refine (unhide C7 _).mono ?_
    rintro e w6 ⟨rfl, rfl⟩
    clear C6 C7
    have q0 : w6.cell? ⟨w.heap.size, 0, none⟩ = some (.bool false) := cell_of_row _ _ 0 _ _ _ r4
    have q1 : w6.cell? ⟨w.heap.size, 1, none⟩ = some (.string { data := #[] }) := cell_of_row _ _ 1 _ _ _ r4
    have q2 : w6.cell? ⟨w.heap.size, 2, none⟩ = some (.string { data := #[] }) := cell_of_row _ _ 2 _ _ _ r4
    have f0 : w6.frozen? ⟨w.heap.size, 0, none⟩ = false := by simp [World.frozen?, r4]
    have f1 : w6.frozen? ⟨w.heap.size, 1, none⟩ = false := by simp [World.frozen?, r4]
    have f2 : w6.frozen? ⟨w.heap.size, 2, none⟩ = false := by simp [World.frozen?, r4]
    clear r4
    cases mi
    · go_wp2_with fail
      exact bodyPost_ret (set_num _ _ q0 q1 q2 _ rfl) rfl ⟨rfl, below_num hB4 _ _ _⟩
    · rcases U with ⟨⟨U⟩⟩
      rcases V with ⟨⟨V⟩⟩
      cases U with
      | nil =>
        cases V with
        | nil =>
          go_wp2_with fail
          exact bodyPost_ret (set_num _ _ q0 q1 q2 _ rfl) rfl ⟨rfl, below_num hB4 _ _ _⟩
        | cons c V =>
          have hne : (Ln.bt (c :: V)).toList.isEmpty = false := by rw [ByteArray.toList_eq]; rfl
          unfold Ln.bt at hne
          go_wp2_with fail
          exact bodyPost_ret (set_num _ _ q0 q1 q2 _ rfl) rfl ⟨rfl, below_num hB4 _ _ _⟩
      | cons c U =>
        have hne : (Ln.bt (c :: U)).toList.isEmpty = false := by rw [ByteArray.toList_eq]; rfl
        unfold Ln.bt at hne
        go_wp2_with fail
        exact bodyPost_ret (set_num _ _ q0 q1 q2 _ rfl) rfl ⟨rfl, below_num hB4 _ _ _⟩
end Go.Proofs.YtmpppdbomdepoaaGreatDoor.Ky
