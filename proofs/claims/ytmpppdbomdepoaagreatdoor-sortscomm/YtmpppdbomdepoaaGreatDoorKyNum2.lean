/- What cmp.Or, compareSizes and Number answer. -/
import Derived.Test.YtmpppdbomdepoaaGreatDoorKyNum
import Derived.Deep.RegionHeld3
namespace Go.Proofs.YtmpppdbomdepoaaGreatDoor.Ky
open Go.RowKit Go.Shelf

attribute [local go_sem] Oper.semAt_some

def or3 (a b c : Int) : Int := if a = 0 then if b = 0 then c else b else a
set_option maxRecDepth 100000 in
set_option maxHeartbeats 400000 in
theorem cmpOr_any (g : Nat) (a b c : Int) (w : World) (h0 : w.cell? ⟨g, 0, none⟩ = some (.int .i64 a)) (h1 : w.cell? ⟨g, 1, none⟩ = some (.int .i64 b)) (h2 : w.cell? ⟨g, 2, none⟩ = some (.int .i64 c)) :
    Calls Tryz.prog 164 #[.slice (some ⟨g, 0, none⟩) 3 3] w fun e w' => e = .returned (.int .i64 (or3 a b c)) ∧ w' = w := by
  obtain ⟨r, hr⟩ : ∃ r, r = or3 a b c := ⟨_, rfl⟩
  rw [← hr]
  have HR := hide hr
  clear hr
  go_enter Tryz.func164, Tryz.ntmps164
  go_wp2
  go_loopw [8] (fun i wr => wr = w ∧ (i = .int .i64 0 ∨ (i = .int .i64 1 ∧ a = 0) ∨ (i = .int .i64 2 ∧ a = 0 ∧ b = 0) ∨ (i = .int .i64 3 ∧ a = 0 ∧ b = 0 ∧ c = 0))) (fun i _ => 3 - (intOf i).toNat)
  case atStart => exact ⟨rfl, .inl rfl⟩
  case round =>
    obtain ⟨rfl, rfl | ⟨rfl, rfl⟩ | ⟨rfl, rfl, rfl⟩ | ⟨rfl, rfl, rfl, rfl⟩⟩ := hrel
    · by_cases hz : a = 0
      · subst hz
        go_wp2_with fail
        go_roundw
        case rel => exact ⟨trivial, .inr (.inl ⟨by go_num, trivial⟩)⟩
        case measure => simp [intOf]
      · have hb : (a == 0) = false := by simpa using hz
        have hr := hide ((unhide HR).trans (by simp [or3, hz] : or3 a b c = a))
        clear hz HR
        go_wp2_with fail
        go_ret
        exact ⟨by rw [unhide hr]; rfl, rfl⟩
    · by_cases hz : b = 0
      · subst hz
        go_wp2_with fail
        go_roundw
        case rel => exact ⟨trivial, .inr (.inr (.inl ⟨by go_num, trivial, trivial⟩))⟩
        case measure => simp [intOf]
      · have hb : (b == 0) = false := by simpa using hz
        have hr := hide ((unhide HR).trans (by simp [or3, hz] : or3 0 b c = b))
        clear hz HR
        go_wp2_with fail
        go_ret
        exact ⟨by rw [unhide hr]; rfl, rfl⟩
    · by_cases hz : c = 0
      · subst hz
        go_wp2_with fail
        go_roundw
        case rel => exact ⟨trivial, .inr (.inr (.inr ⟨by go_num, trivial, trivial, trivial⟩))⟩
        case measure => simp [intOf]
      · have hb : (c == 0) = false := by simpa using hz
        have hr := hide ((unhide HR).trans (by simp [or3] : or3 0 0 c = c))
        clear hz HR
        go_wp2_with fail
        go_ret
        exact ⟨by rw [unhide hr]; rfl, rfl⟩
    · go_wp2_with fail
      go_ret
      exact ⟨by rw [unhide HR]; rfl, rfl⟩

theorem cell_at (W : World) (cs : Array Value) (t : TypeId) (k i : Nat) (hk : W.heap.size = k) : (W.alloc (.cells cs t)).cell? ⟨k, i, none⟩ = cs[i]? := by
  subst hk; exact cell_of_row _ _ _ _ _ _ (heap_alloc_new W _)
set_option maxRecDepth 100000 in
set_option maxHeartbeats 400000 in
theorem compareSizes_any (x y : Dec) (w : World) :
    Calls Tryz.prog 144 #[nv x, nv y] w fun e w' => e = .returned (.int .i64 (cmpU x y)) ∧ Below w.heap.size w w' := by
  have C1 : Hid (∀ w, Calls Tryz.prog 119 #[.int .i64 (x.whole.length : Int), .int .i64 (y.whole.length : Int)] w fun e w' => e = .returned (.int .i64 (cmpI x.whole.length y.whole.length)) ∧ w' = w) := fun w => by rw [← cmpI_eq]; exact Tryz.cmp_Compare_int _ _ w
  have C2 : Hid (∀ w, Calls Tryz.prog 75 #[.string (Ln.bt x.whole), .string (Ln.bt y.whole)] w fun e w' => e = .returned (.int .i64 (cmpL x.whole y.whole)) ∧ w' = w) := fun w => compare_any _ _ w
  have C3 : Hid (∀ w, Calls Tryz.prog 75 #[.string (Ln.bt x.part), .string (Ln.bt y.part)] w fun e w' => e = .returned (.int .i64 (cmpL x.part y.part)) ∧ w' = w) := fun w => compare_any _ _ w
  have hU : Hid (cmpU x y = or3 (cmpI x.whole.length y.whole.length) (cmpL x.whole y.whole) (cmpL x.part y.part)) := by
    show _ = _
    unfold cmpU lex or3; rfl
  rw [unhide hU]
  generalize cmpI x.whole.length y.whole.length = a at *
  generalize cmpL x.whole y.whole = b at *
  generalize cmpL x.part y.part = c at *
  unfold nv
  have z1 : (Ln.bt x.whole).size = x.whole.length := rfl
  have z2 : (Ln.bt y.whole).size = y.whole.length := rfl
  clear hU
  go_enter Tryz.func144, Tryz.ntmps144
  go_wp2_with fail
  go_region_held3 (fun w' => w'.cell? ⟨w.heap.size, 1, none⟩ = some (.string (Ln.bt x.whole)) ∧ w'.cell? ⟨w.heap.size, 2, none⟩ = some (.string (Ln.bt x.part)) ∧ w'.cell? ⟨w.heap.size + 1, 1, none⟩ = some (.string (Ln.bt y.whole)) ∧ w'.cell? ⟨w.heap.size + 1, 2, none⟩ = some (.string (Ln.bt y.part))) (go_keep)
    (first | (go_at_call 119; refine (unhide C1 _).mono ?_; rintro e w' ⟨rfl, rfl⟩) | (go_at_call 75; first | (with_reducible refine (unhide C2 _).mono ?_; rintro e w' ⟨rfl, rfl⟩) | (with_reducible refine (unhide C3 _).mono ?_; rintro e w' ⟨rfl, rfl⟩)) | (go_at_call 164; refine (cmpOr_any _ a b c _ (cell_at _ _ _ _ 0 (by simp)) (cell_at _ _ _ _ 1 (by simp)) (cell_at _ _ _ _ 2 (by simp))).mono ?_; rintro e w' ⟨rfl, rfl⟩))
  go_wp2_with fail
  go_ret
  exact ⟨rfl, ((((Below.refl _ _).alloc (Nat.le_refl _) _).alloc (by simp) _).alloc (by simp; omega) _).drew⟩

theorem decOf_zero (s : Bs) : (decOf s).sign = 0 ↔ (decOf s).whole = [] ∧ (decOf s).part = [] := by
  rw [dec_cut]
  simp only
  split
  · rename_i h; simp [h]
  · rename_i h; cases (cut1 45 (s.dropWhile bl)).2 <;> simp [h]
theorem cmpU_nil (x y : Dec) (h : x.whole = [] ∧ x.part = []) (k : ¬ (y.whole = [] ∧ y.part = [])) : cmpU x y = -1 := by
  unfold cmpU lex
  simp only [h.1, h.2]
  cases hw : y.whole with
  | cons c t => simp [cmpI]
  | nil =>
    cases hp : y.part with
    | nil => exact absurd ⟨hw, hp⟩ k
    | cons c t => simp [cmpI, cmpL]
theorem cmpU_nn (x y : Dec) (h : x.whole = [] ∧ x.part = []) (k : y.whole = [] ∧ y.part = []) : cmpU x y = 0 := by
  unfold cmpU lex
  simp [h.1, h.2, k.1, k.2, cmpI, cmpL]
theorem number_go (a b : Bs) : number a b = if (decOf a).sign = -1 then (if (decOf b).sign = -1 then cmpU (decOf b) (decOf a) else -1) else if (decOf b).sign = -1 then 1 else cmpU (decOf a) (decOf b) := by
  have ha := decOf_sgn a
  have hb := decOf_sgn b
  have za := decOf_zero a
  have zb := decOf_zero b
  unfold number cmpD
  generalize decOf a = x at *
  generalize decOf b = y at *
  have tn := good_cmpU.tn x y
  rcases ha with h | h | h <;> rcases hb with k | k | k <;> simp only [h, k] <;> simp [cmpI]
  · omega
  · exact (cmpU_nn x y (za.1 h) (zb.1 k)).symm
  · exact (cmpU_nil x y (za.1 h) (fun q => by have := zb.2 q; omega)).symm
  · have := cmpU_nil y x (zb.1 k) (fun q => by have := za.2 q; omega)
    have := good_cmpU.tn y x
    omega
set_option maxRecDepth 100000 in
set_option maxHeartbeats 400000 in
theorem number_any (a b : ByteArray) (w : World) (ha : a.size ≤ 1073741824) (hb : b.size ≤ 1073741824) :
    Calls Tryz.prog 127 #[.string a, .string b] w fun e w' => e = .returned (.int .i64 (number a.data.toList b.data.toList)) ∧ Below w.heap.size w w' := by
  have R1 := hide (fun w => readNumber_any a w ha)
  have R2 := hide (fun w => readNumber_any b w hb)
  have hg := hide (number_go a.data.toList b.data.toList)
  have S1 := hide (fun w => compareSizes_any (decOf a.data.toList) (decOf b.data.toList) w)
  have S2 := hide (fun w => compareSizes_any (decOf b.data.toList) (decOf a.data.toList) w)
  rw [unhide hg]
  clear hg
  generalize decOf a.data.toList = x at *
  generalize decOf b.data.toList = y at *
  unfold nv at *
  obtain ⟨p, hp⟩ : ∃ p, p = decide (x.sign = -1) := ⟨_, rfl⟩
  obtain ⟨q, hq⟩ : ∃ q, q = decide (y.sign = -1) := ⟨_, rfl⟩
  have hE : Hid ((if x.sign = -1 then (if y.sign = -1 then cmpU y x else -1) else if y.sign = -1 then 1 else cmpU x y) = (if p then (if q then cmpU y x else -1) else if q then 1 else cmpU x y)) := by
    show _ = _
    rw [hp, hq]; simp
  rw [unhide hE]
  rw [← hp] at R1 S1 S2
  rw [← hq] at R2 S1 S2
  clear hp hq hE
  generalize Ln.bt x.whole = x1 at *
  generalize Ln.bt x.part = x2 at *
  generalize Ln.bt y.whole = y1 at *
  generalize Ln.bt y.part = y2 at *
  generalize cmpU x y = n1 at *
  generalize cmpU y x = n2 at *
  go_enter Tryz.func127, Tryz.ntmps127
  go_wp2_with fail
  refine (unhide R1 _).mono ?_
  rintro e w1 ⟨rfl, b1⟩
  go_wp2_with fail
  refine (unhide R2 _).mono ?_
  rintro e w2 ⟨rfl, b2⟩
  have hB := hide (b1.trans (b2.mono b1.size))
  clear b1 b2 R1 R2
  have hB2 := hide (((unhide hB).alloc (unhide hB).size (.cells #[.bool p, .string x1, .string x2] 193)).alloc (by simp; exact Nat.le_succ_of_le (unhide hB).size) (.cells #[.bool q, .string y1, .string y2] 193))
  cases p <;> cases q
  · go_wp2_with fail
    refine (unhide S1 _).mono ?_
    rintro e w3 ⟨rfl, b3⟩
    go_wp2_with fail
    go_ret
    exact ⟨rfl, (unhide hB2).trans (b3.mono (unhide hB2).size)⟩
  · go_wp2_with fail
    go_ret
    exact ⟨rfl, unhide hB2⟩
  · go_wp2_with fail
    go_ret
    exact ⟨rfl, unhide hB2⟩
  · go_wp2_with fail
    refine (unhide S2 _).mono ?_
    rintro e w3 ⟨rfl, b3⟩
    go_wp2_with fail
    go_ret
    exact ⟨rfl, (unhide hB2).trans (b3.mono (unhide hB2).size)⟩
end Go.Proofs.YtmpppdbomdepoaaGreatDoor.Ky
