/- What slices.Collect and Fields answer. -/
import Derived.Test.YtmpppdbomdepoaaGreatDoorLnRuns
namespace Go.Proofs.YtmpppdbomdepoaaGreatDoor.Ln
open Go.RowKit Go.Shelf

attribute [local go_sem] Oper.semAt_some

def strs1 (pre : List (List UInt8)) : List Value := pre.map fun q => .string (bt q)
theorem strs1_snoc (pre : List (List UInt8)) (x : List UInt8) : strs1 (pre ++ [x]) = strs1 pre ++ [.string (bt x)] := by simp [strs1]

set_option maxRecDepth 100000 in
set_option maxHeartbeats 2000000 in
theorem appendSeq_any (gf : Nat) (lb : Array Value) (xs : List (List UInt8)) (rd : World → Prop) (w : World) (eg : ∀ args w, (callFunc gf args).run Tryz.prog w = .ok (.enter gf args) w) (hit : Rng.Itr Tryz.prog gf lb enc1 xs rd)
    (hrd : ∀ W, Below w.heap.size w W → rd W) (hlen : xs.length ≤ 1073741824) :
    Calls Tryz.prog 197 #[.slice none 0 0, .func (.func gf) #[] lb] w fun e w' => ∃ v, e = .returned v ∧ w'.ownsRow w.heap.size 9 1 v xs.length (strs1 xs) ∧ Below w.heap.size w w' := by
  obtain ⟨i0, hi, hz0, hz1, hz2⟩ := info_parts Tryz.infoStr
  have HRD := hide hrd
  clear hrd
  refine (callsIn_wide (n := 3)).1 ?_
  refine callsIn_of_wp_marks Tryz.func197 rfl trivial ?_ rfl
  simp only [Tryz.ntmps197, List.size_toArray, List.length_cons, List.length_nil, Nat.reduceAdd, Nat.reduceSub, Array.replicate_succ, Array.replicate_zero, List.push_toArray, List.append_toArray, List.nil_append, List.cons_append]
  gi_wp2
  have bL := Boxed.new w 25 (.slice none 0 0)
  have hB0 : Below w.heap.size w (w.alloc (.cells #[.slice none 0 0] 25)) := (Below.refl _ w).alloc (Nat.le_refl _) _
  have hsz : (w.alloc (.cells #[.slice none 0 0] 25)).heap.size = w.heap.size + 1 := by simp
  generalize (w.alloc (.cells #[.slice none 0 0] 25)) = W0 at *
  refine Rng.range (gf := gf) (lb := lb) rfl eg hit (fun _ => rfl)
    (fun N pre W => (∃ v, Boxed W w.heap.size 25 v ∧ W.ownsRow N 9 1 v pre.length (strs1 pre) ∧ True) ∧ Below w.heap.size w W)
    (fun _ _ _ _ => False)
    (fun N => OwnFrom.and (Own.from (holdsRow_own N w.heap.size 25 9 1 (fun pre => pre.length) strs1 (fun _ _ => True)) _) (ownFrom_below (Nat.le_refl _) (by omega)))
    (fun _ _ _ _ _ _ hs _ _ => hs) (fun _ _ _ h => unhide HRD _ h.2)
    (fun N => ⟨⟨_, bL, World.ownsRow_nil _ _ _ _, trivial⟩, hB0⟩)
    (fun x => { tmps := #[.slice none 0 0, .func (.func gf) #[] lb, .pointer (some ⟨w.heap.size, 0, none⟩), undef, .slice none 0 0, .string (bt x), .func (.func gf) #[] lb, .string (bt x), undef, undef, undef, undef, undef], defers := [] }) ?assign ?body ?done ?stop
  case assign =>
    intro m l x W K hK
    simp only [enc1]
    gi_wp2
    exact hK
  case body =>
    rintro m l N pre x W ⟨⟨v, hv, hrow, _⟩, hB⟩ hpre hN1 hN2
    rw [hsz] at hN1
    have hc := hv.cell
    have hplt : pre.length + 1 ≤ 1073741824 := by have := hpre.length_le; simp at this; omega
    gi_wp2_with (gi_at_builtin; refine wpListIn_append_own _ rfl _ _ 25 rfl N 9 i0 _ 1 16 Tryz.underlying25 hi hz0 hz1 hz2 rfl (by decide) _ _ _ rfl (hrow.alloc _) ⟨W.heap.size, 0, none⟩ 1 1 [.string (bt x)] rfl rfl (cell_one_new _ _ _) (by simp [Value.oneCell']) (by unfold maxLen; omega) (by omega) (by simp; omega) ?_; intro v' w1 hown' hgrow _; obtain ⟨g', cap', rfl⟩ := ownsRow_succ hown'; have hv1 := app_box hv (by omega) hrow hgrow; have hK1 := app_stays (B := W0.heap.size) hN2 hrow hgrow; have hB1 := app_below hB (by omega) (Nat.le_refl _) hrow hgrow; have hc1 := hv1.cell; have hf1 := hv1.frozen)
    refine ⟨hK1.trans (Rng.Stays.set _ _ _ (by omega)), ⟨_, hv1.set _, ?_, trivial⟩, hB1.setCell (p := ⟨w.heap.size, 0, none⟩) (Nat.le_refl _) _⟩
    rw [strs1_snoc, List.length_append]
    exact own_set hown' (by omega)
  case done =>
    rintro N W hN ⟨⟨v, hv, hrow, _⟩, hB⟩ hD
    have hc := hv.cell
    gi_wp2
    refine ⟨by simp, .inl ⟨_, _, rfl, run_takeDeferred hD, ?_⟩⟩
    exact ⟨_, results_tmp (fn := Tryz.f197) (t := 4) rfl _ _ _, v, rfl, own_base' (ownsRow_putObj hrow _ hD rfl) (by omega), hB.trans (belowK_b (w := w) (Nat.le_refl _) _ _ _ _ (by omega) hD rfl rfl)⟩
  case stop =>
    rintro N c pre W _ _ h _
    exact h.elim

set_option maxHeartbeats 1000000 in
theorem collect_any (gf : Nat) (lb : Array Value) (xs : List (List UInt8)) (rd : World → Prop) (w : World) (eg : ∀ args w, (callFunc gf args).run Tryz.prog w = .ok (.enter gf args) w) (hit : Rng.Itr Tryz.prog gf lb enc1 xs rd)
    (hrd : ∀ W, Below w.heap.size w W → rd W) (hlen : xs.length ≤ 1073741824) :
    Calls Tryz.prog 185 #[.func (.func gf) #[] lb] w fun e w' => ∃ v, e = .returned v ∧ w'.ownsRow w.heap.size 9 1 v xs.length (strs1 xs) ∧ Below w.heap.size w w' := by
  have H := hide (appendSeq_any gf lb xs rd w eg hit hrd hlen)
  clear hit hrd eg
  go_enter Tryz.func185, Tryz.ntmps185
  go_wp2_with fail
  refine (unhide H).mono ?_
  rintro e w' ⟨v, rfl, hO, hB⟩
  go_wp2_with fail
  go_ret
  exact ⟨v, rfl, hO, hB⟩

theorem isBlank_any (c : Nat) (w : World) :
    Calls Tryz.prog 186 #[.int .u8 c] w fun e w' => e = .returned (.bool (decide (c = 32) || decide (c = 9))) ∧ w' = w := by
  obtain ⟨r, hr⟩ : ∃ r, r = (decide (c = 32) || decide (c = 9)) := ⟨_, rfl⟩
  rw [← hr]
  rcases (show c = 32 ∨ c = 9 ∨ (c ≠ 32 ∧ c ≠ 9) by omega) with rfl | rfl | ⟨h, h'⟩
  · obtain rfl : r = true := by rw [hr]; rfl
    clear hr
    go_enter Tryz.func186, Tryz.ntmps186
    go_wp2
    go_ret
    exact ⟨rfl, rfl⟩
  · obtain rfl : r = true := by rw [hr]; rfl
    clear hr
    go_enter Tryz.func186, Tryz.ntmps186
    go_wp2
    go_ret
    exact ⟨rfl, rfl⟩
  · have a1 : ((c : Int) == 32) = false := by simp; omega
    have a2 : ((c : Int) == 9) = false := by simp; omega
    obtain rfl : r = false := by rw [hr]; simp [h, h']
    clear hr
    go_enter Tryz.func186, Tryz.ntmps186
    go_wp2
    go_ret
    exact ⟨rfl, rfl⟩

def isSep (sep : Nat) (c : UInt8) : Bool := decide (c.toNat = sep)
theorem sep_any (b c sep : Nat) (w : World) (hb : w.cell? ⟨b, 0, none⟩ = some (.int .u8 sep)) :
    Calls Tryz.prog 188 #[.int .u8 c, .pointer (some ⟨b, 0, none⟩)] w fun e w' => e = .returned (.bool (decide (c = sep))) ∧ w' = w := by
  obtain ⟨r, hr⟩ : ∃ r, r = decide (c = sep) := ⟨_, rfl⟩
  rw [← hr]
  by_cases h : c = sep
  · subst h
    obtain rfl : r = true := by rw [hr]; simp
    clear hr
    go_enter Tryz.func188, Tryz.ntmps188
    go_wp2
    go_ret
    exact ⟨rfl, rfl⟩
  · have a1 : ((c : Int) == (sep : Int)) = false := by simp; omega
    obtain rfl : r = false := by rw [hr]; simp [h]
    clear hr
    go_enter Tryz.func188, Tryz.ntmps188
    go_wp2
    go_ret
    exact ⟨rfl, rfl⟩

theorem row_ne_deferred {W : World} {N d : Nat} {e : TypeId} {size k : Nat} {v : Value} {xs : List Value} {ds : Option (List Deferred)} (h : W.ownsRow N e size v k xs) (hD : W.heap[d]? = some (.deferred ds)) : some d ≠ v.ownBlock := by
  rcases h.2 with ⟨rfl, _⟩ | ⟨g, cap, cur, rfl, _, hg, _⟩
  · simp [Value.ownBlock]
  · intro e'
    simp [Value.ownBlock] at e'
    subst e'
    rw [hg] at hD
    cases hD

def lastT (pre : List (List UInt8 × Bool)) : Bool := (pre.getLast?.map (·.2)).getD true
theorem lastT_snoc (pre : List (List UInt8 × Bool)) (x : List UInt8 × Bool) : lastT (pre ++ [x]) = x.2 := by simp [lastT]
/-- the fields of a line -/
def fieldsL (sep : Nat) (l : List UInt8) : List (List UInt8) :=
  if sep = 0 then runsOf (parts isBlank l) else (parts (isSep sep) l).map (·.1) ++ if lastT (parts (isSep sep) l) then [[]] else []

set_option maxRecDepth 100000 in
set_option maxHeartbeats 2000000 in
theorem fields_blank (s : ByteArray) (w : World) (hs : s.size ≤ 1073741824) :
    Calls Tryz.prog 176 #[.string s, .int .u8 0] w fun e w' => ∃ v, e = .returned v ∧ w'.ownsRow w.heap.size 9 1 v (fieldsL 0 s.data.toList).length (strs1 (fieldsL 0 s.data.toList)) ∧ Below w.heap.size w w' := by
  have ef : fieldsL 0 s.data.toList = runsOf (parts isBlank s.data.toList) := rfl
  rw [ef]
  have hl : (runsOf (parts isBlank s.data.toList)).length ≤ 1073741824 := Nat.le_trans (by unfold runsOf; exact Nat.le_trans (List.length_filter_le _ _) (by simp)) (Nat.le_trans (parts_len isBlank s.data.toList) hs)
  refine (callsIn_wide (n := 3)).1 ?_
  refine callsIn_of_wp_marks Tryz.func176 rfl trivial ?_ rfl
  simp only [Tryz.ntmps176, List.size_toArray, List.length_cons, List.length_nil, Nat.reduceAdd, Nat.reduceSub, Array.replicate_succ, Array.replicate_zero, List.push_toArray, List.append_toArray, List.nil_append, List.cons_append]
  gi_wp2_with (refine ⟨trivial, ?_⟩; gi_at_call 187; refine (callsIn_wide.2 (runs_any _ _ _ _)).mono ?_; rintro e w' ⟨rfl, rfl⟩)
  have bP := (Boxed.new (w.alloc (.cells #[.int .u8 0] 5)) 229 (.func (.func 186) #[] #[])).alloc (.cells #[.string s] 9)
  have bS := Boxed.new ((w.alloc (.cells #[.int .u8 0] 5)).alloc (.cells #[.func (.func 186) #[] #[]] 229)) 9 (.string s)
  have hB0 : Below w.heap.size w (((w.alloc (.cells #[.int .u8 0] 5)).alloc (.cells #[.func (.func 186) #[] #[]] 229)).alloc (.cells #[.string s] 9)) := (((Below.refl _ w).alloc (Nat.le_refl _) _).alloc (by simp) _).alloc (by simp; omega) _
  have hsz : (((w.alloc (.cells #[.int .u8 0] 5)).alloc (.cells #[.func (.func 186) #[] #[]] 229)).alloc (.cells #[.string s] 9)).heap.size = w.heap.size + 3 := by simp
  simp only [World.size_alloc] at bP bS
  generalize (((w.alloc (.cells #[.int .u8 0] 5)).alloc (.cells #[.func (.func 186) #[] #[]] 229)).alloc (.cells #[.string s] 9)) = W0 at *
  refine ⟨trivial, ?_⟩
  refine (callsIn_wide.2 (collect_any 198 _ _ (RdB (w.heap.size + 2) (w.heap.size + 1) s 186 #[]) W0 (enters_of Tryz.func198 (by kernel_rfl) rfl)
    (runs1_itr (w.heap.size + 1) (w.heap.size + 2) s 186 #[] isBlank hs _ (fun W h => h) (fun W q h => h) (enters_of Tryz.func186 (by kernel_rfl) rfl)
      (fun c W _ => (isBlank_any c.toNat W).mono fun e W' h => ⟨h.1, h.2⟩))
    (fun W h => ⟨(h.block _ (by omega)).trans bS, (h.block _ (by omega)).trans bP⟩) hl)).mono ?_
  rintro e w' ⟨v, rfl, hO, hB⟩
  have hBw : Below w.heap.size w w' := hB0.trans (hB.mono hB0.size)
  gi_wp2
  exact ⟨_, results_tmp (fn := Tryz.f176) (t := 4) rfl _ _ _, v, rfl, own_base' hO (by omega), hBw⟩

set_option maxRecDepth 100000 in
set_option maxHeartbeats 4000000 in
theorem fields_sep (s : ByteArray) (sep : Nat) (w : World) (hs : s.size ≤ 1073741824) (hsep : sep < 256) (hs0 : 0 < sep) :
    Calls Tryz.prog 176 #[.string s, .int .u8 sep] w fun e w' => ∃ v, e = .returned v ∧ w'.ownsRow w.heap.size 9 1 v (fieldsL sep s.data.toList).length (strs1 (fieldsL sep s.data.toList)) ∧ Below w.heap.size w w' := by
  obtain ⟨i0, hi, hz0, hz1, hz2⟩ := info_parts Tryz.infoStr
  have hpl : (parts (isSep sep) s.data.toList).length ≤ 1073741824 := Nat.le_trans (parts_len _ _) hs
  have ef : fieldsL sep s.data.toList = (parts (isSep sep) s.data.toList).map (·.1) ++ if lastT (parts (isSep sep) s.data.toList) then [[]] else [] := by unfold fieldsL; rw [if_neg (by omega)]
  have HF := hide ef
  clear ef
  have hs1 : ((sep : Int) == 0) = false := by simp; omega
  have hs2 : ¬ (sep : Int) = 0 := by omega
  have hmf : ∀ (fn : Fn) (first cap : Array Value) (w : World), (Instr.makeFunc fn first cap).run Tryz.prog w = .ok (.func fn first cap) w := fun _ _ _ _ => rfl
  refine (callsIn_wide (n := 3)).1 ?_
  refine callsIn_of_wp_marks Tryz.func176 rfl trivial ?_ rfl
  simp only [Tryz.ntmps176, List.size_toArray, List.length_cons, List.length_nil, Nat.reduceAdd, Nat.reduceSub, Array.replicate_succ, Array.replicate_zero, List.push_toArray, List.append_toArray, List.nil_append, List.cons_append]
  gi_wp2_with (refine ⟨trivial, ?_⟩; gi_at_call 189; refine (callsIn_wide.2 (each_any _ _ _ _)).mono ?_; rintro e w' ⟨rfl, rfl⟩)
  have bX := ((((Boxed.new w 5 (.int .u8 sep)).alloc (.cells #[.slice none 0 0] 25)).alloc (.cells #[.bool true] 4)).alloc (.cells #[.func (.func 188) #[] #[.pointer (some ⟨w.heap.size, 0, none⟩)]] 229)).alloc (.cells #[.string s] 9)
  have bL := (((Boxed.new (w.alloc (.cells #[.int .u8 sep] 5)) 25 (.slice none 0 0)).alloc (.cells #[.bool true] 4)).alloc (.cells #[.func (.func 188) #[] #[.pointer (some ⟨w.heap.size, 0, none⟩)]] 229)).alloc (.cells #[.string s] 9)
  have bE := ((Boxed.new ((w.alloc (.cells #[.int .u8 sep] 5)).alloc (.cells #[.slice none 0 0] 25)) 4 (.bool true)).alloc (.cells #[.func (.func 188) #[] #[.pointer (some ⟨w.heap.size, 0, none⟩)]] 229)).alloc (.cells #[.string s] 9)
  have bP := (Boxed.new (((w.alloc (.cells #[.int .u8 sep] 5)).alloc (.cells #[.slice none 0 0] 25)).alloc (.cells #[.bool true] 4)) 229 (.func (.func 188) #[] #[.pointer (some ⟨w.heap.size, 0, none⟩)])).alloc (.cells #[.string s] 9)
  have bS := Boxed.new ((((w.alloc (.cells #[.int .u8 sep] 5)).alloc (.cells #[.slice none 0 0] 25)).alloc (.cells #[.bool true] 4)).alloc (.cells #[.func (.func 188) #[] #[.pointer (some ⟨w.heap.size, 0, none⟩)]] 229)) 9 (.string s)
  have hB0 : Below w.heap.size w (((((w.alloc (.cells #[.int .u8 sep] 5)).alloc (.cells #[.slice none 0 0] 25)).alloc (.cells #[.bool true] 4)).alloc (.cells #[.func (.func 188) #[] #[.pointer (some ⟨w.heap.size, 0, none⟩)]] 229)).alloc (.cells #[.string s] 9)) := (((((Below.refl _ w).alloc (Nat.le_refl _) _).alloc (by simp) _).alloc (by simp; omega) _).alloc (by simp; omega) _).alloc (by simp; omega) _
  have hsz : (((((w.alloc (.cells #[.int .u8 sep] 5)).alloc (.cells #[.slice none 0 0] 25)).alloc (.cells #[.bool true] 4)).alloc (.cells #[.func (.func 188) #[] #[.pointer (some ⟨w.heap.size, 0, none⟩)]] 229)).alloc (.cells #[.string s] 9)).heap.size = w.heap.size + 5 := by simp
  simp only [World.size_alloc] at bL bE bP bS
  generalize (((((w.alloc (.cells #[.int .u8 sep] 5)).alloc (.cells #[.slice none 0 0] 25)).alloc (.cells #[.bool true] 4)).alloc (.cells #[.func (.func 188) #[] #[.pointer (some ⟨w.heap.size, 0, none⟩)]] 229)).alloc (.cells #[.string s] 9)) = W0 at *
  refine Rng.range (gf := 199) (lb := #[.pointer (some ⟨w.heap.size + 4, 0, none⟩), .pointer (some ⟨w.heap.size + 3, 0, none⟩)]) rfl (enters_of Tryz.func199 (by kernel_rfl) rfl)
    (each1_itr (w.heap.size + 4) (w.heap.size + 3) s 188 #[.pointer (some ⟨w.heap.size, 0, none⟩)] (isSep sep) hs (fun W => RdB (w.heap.size + 4) (w.heap.size + 3) s 188 #[.pointer (some ⟨w.heap.size, 0, none⟩)] W ∧ Boxed W w.heap.size 5 (.int .u8 sep)) (fun W h => ⟨h.1.1.cell, h.1.2.cell⟩) (fun W q h => h)
      (enters_of Tryz.func188 (by kernel_rfl) rfl) (fun c W h => (sep_any w.heap.size c.toNat sep W h.2.cell).mono fun e W' h => ⟨h.1, h.2⟩)) (fun _ => rfl)
    (fun N pre W => (∃ v, Boxed W (w.heap.size + 1) 25 v ∧ W.ownsRow N 9 1 v pre.length (strs pre) ∧ True) ∧ Boxed W (w.heap.size + 2) 4 (.bool (lastT pre)) ∧ (RdB (w.heap.size + 4) (w.heap.size + 3) s 188 #[.pointer (some ⟨w.heap.size, 0, none⟩)] W ∧ Boxed W w.heap.size 5 (.int .u8 sep)) ∧ Below w.heap.size w W)
    (fun _ _ _ _ => False)
    (fun N => OwnFrom.and (Own.from (holdsRow_own N (w.heap.size + 1) 25 9 1 (fun pre => pre.length) strs (fun _ _ => True)) _) (OwnFrom.and (Own.from (boxed_own _ _ (fun pre => .bool (lastT pre))) _) (OwnFrom.and (OwnFrom.and (OwnFrom.and (Own.from (boxed_own _ _ (fun _ => .string s)) _) (Own.from (boxed_own _ _ (fun _ => .func (.func 188) #[] #[.pointer (some ⟨w.heap.size, 0, none⟩)])) _)) (Own.from (boxed_own _ _ (fun _ => .int .u8 sep)) _)) (ownFrom_below (Nat.le_refl _) (by omega)))))
    (fun _ _ _ _ _ _ hs _ _ => hs) (fun _ _ _ h => h.2.2.1)
    (fun N => ⟨⟨_, bL, World.ownsRow_nil _ _ _ _, trivial⟩, bE, ⟨⟨bS, bP⟩, bX⟩, hB0⟩)
    (fun x => { tmps := #[.string s, .int .u8 sep, undef, .pointer (some ⟨w.heap.size, 0, none⟩), .slice none 0 0, .pointer (some ⟨w.heap.size + 1, 0, none⟩), .pointer (some ⟨w.heap.size + 2, 0, none⟩), .string (bt x.1), .bool x.2, .int .u8 sep, .bool false, undef, undef, undef, undef, .func (.func 188) #[] #[.pointer (some ⟨w.heap.size, 0, none⟩)], .agg #[.func (.func 188) #[] #[.pointer (some ⟨w.heap.size, 0, none⟩)]], .string s, itv (w.heap.size + 4) (w.heap.size + 3), .string (bt x.1), .bool x.2, undef, undef, undef, undef, undef, undef, undef, undef, undef, undef], defers := [] }) ?assign ?body ?done ?stop
  case assign =>
    intro m l x W K hK
    simp only [enc]
    gi_wp2
    exact hK
  case body =>
    rintro m l N pre x W ⟨⟨v, hv, hrow, _⟩, hE, hR, hB⟩ hpre hN1 hN2
    have hc := hv.cell
    have hplt : pre.length + 1 ≤ 1073741824 := by have := hpre.length_le; simp at this; omega
    rw [hsz] at hN1
    have HR := hide hR
    clear hR
    gi_wp2_with (gi_at_builtin; refine wpListIn_append_own _ rfl _ _ 25 rfl N 9 i0 _ 1 16 Tryz.underlying25 hi hz0 hz1 hz2 rfl (by decide) _ _ _ rfl (hrow.alloc _) ⟨W.heap.size, 0, none⟩ 1 1 [.string (bt x.1)] rfl rfl (cell_one_new _ _ _) (by simp [Value.oneCell']) (by unfold maxLen; omega) (by omega) (by simp; omega) ?_; intro v' w1 hown' hgrow _; obtain ⟨g', cap', rfl⟩ := ownsRow_succ hown'; have hv1 := app_box hv (by omega) hrow hgrow; have hE1 := app_box hE (by omega) hrow hgrow; have hK1 := app_stays (B := W0.heap.size) hN2 hrow hgrow; have hB1 := app_below hB (by omega) (Nat.le_refl _) hrow hgrow; have hG := hide hgrow; clear hgrow; have hc1 := hv1.cell; have hf1 := hv1.frozen; have hc2 := (hE1.other (B' := w.heap.size + 1) (by omega) (Value.slice (some ⟨g', 0, none⟩) (pre.length + 1) cap')).cell; have hf2 := (hE1.other (B' := w.heap.size + 1) (by omega) (Value.slice (some ⟨g', 0, none⟩) (pre.length + 1) cap')).frozen)
    have hS1 := app_box (unhide HR).1.1 (by omega) hrow (unhide hG)
    have hP1 := app_box (unhide HR).1.2 (by omega) hrow (unhide hG)
    have hX1 := app_box (unhide HR).2 (by omega) hrow (unhide hG)
    refine ⟨hK1.trans ((Rng.Stays.set _ _ _ (by omega)).trans (Rng.Stays.set _ _ _ (by omega))), ⟨_, (hv1.set _).other (by omega) _, ?_, trivial⟩, ?_, ⟨⟨(hS1.other (by omega) _).other (by omega) _, (hP1.other (by omega) _).other (by omega) _⟩, (hX1.other (by omega) _).other (by omega) _⟩, (hB1.setCell (p := ⟨w.heap.size + 1, 0, none⟩) (Nat.le_add_right _ _) _).setCell (p := ⟨w.heap.size + 2, 0, none⟩) (Nat.le_add_right _ _) _⟩
    · rw [strs_snoc, List.length_append]
      exact own_set (own_set hown' (by omega)) (by omega)
    · rw [lastT_snoc]
      exact (hE1.other (by omega) _).set _
  case done =>
    rintro N W hN ⟨⟨v, hv, hrow, _⟩, hE, hR, hB⟩ hD
    have hDlt : W0.heap.size < W.heap.size := (Array.getElem?_eq_some_iff.1 hD).1
    have hc := hv.cell
    have hc2 := hE.cell
    have HD := hide hD
    clear hD hR
    have e2 : strs1 ((parts (isSep sep) s.data.toList).map (·.1)) = strs (parts (isSep sep) s.data.toList) := by simp [strs1, strs]
    have HE2 := hide e2
    clear e2
    cases hb : lastT (parts (isSep sep) s.data.toList)
    · rw [hb] at hc2
      gi_wp2
      have hD := unhide HD
      refine ⟨by simp, .inl ⟨_, _, rfl, run_takeDeferred hD, ?_⟩⟩
      refine ⟨_, results_tmp (fn := Tryz.f176) (t := 4) rfl _ _ _, v, rfl, ?_, hB.trans (belowK_b (w := w) (Nat.le_refl _) _ _ _ _ (by omega) hD rfl rfl)⟩
      have e3 : fieldsL sep s.data.toList = (parts (isSep sep) s.data.toList).map (·.1) := by rw [unhide HF, hb]; simp
      rw [e3, unhide HE2, List.length_map]
      exact own_base' (ownsRow_putObj hrow _ hD rfl) (by omega)
    · rw [hb] at hc2
      have hrow0 := own_base' hrow (N' := W0.heap.size) (by omega)
      have hne : some W0.heap.size ≠ v.ownBlock := row_ne_deferred hrow0 (unhide HD)
      gi_wp2_with (gi_at_builtin; refine wpListIn_append_own _ rfl _ _ 25 rfl W0.heap.size 9 i0 _ 1 16 Tryz.underlying25 hi hz0 hz1 hz2 rfl (by decide) _ _ _ rfl (hrow0.alloc _) ⟨W.heap.size, 0, none⟩ 1 1 [.string { data := #[] }] rfl rfl (cell_one_new _ _ _) (by simp [Value.oneCell']) (by unfold maxLen; omega) (by omega) (by simp; omega) ?_; intro v' w1 hown' hgrow _; obtain ⟨g', cap', rfl⟩ := ownsRow_succ hown'; have hv1 := app_box hv (by omega) hrow0 hgrow; have hB1 := app_below hB (by omega) (Nat.le_refl _) hrow0 hgrow; have hG := hide hgrow; clear hgrow; have hc1 := hv1.cell; have hf1 := hv1.frozen)
      have hD1 : w1.heap[W0.heap.size]? = some (.deferred (some [])) := ((unhide hG).block _ (by simp; omega) hne).trans ((Below.heap_alloc _ _ _ (by omega)).trans (unhide HD))
      obtain ⟨Y, hY⟩ : ∃ Y, Y = w1.setCell ⟨w.heap.size + 1, 0, none⟩ (Value.slice (some ⟨g', 0, none⟩) ((parts (isSep sep) s.data.toList).length + 1) cap') := ⟨_, rfl⟩
      have hD2 : Y.heap[w.heap.size + 5]? = some (.deferred (some [])) := by rw [hY, ← hsz]; exact (Below.heap_setCell _ _ _ _ (by simp; omega)).trans hD1
      have hO2 : Y.ownsRow W0.heap.size 9 1 (Value.slice (some ⟨g', 0, none⟩) ((parts (isSep sep) s.data.toList).length + 1) cap') ((parts (isSep sep) s.data.toList).length + 1) (strs (parts (isSep sep) s.data.toList) ++ [.string { data := #[] }]) := by rw [hY]; exact own_set hown' (by omega)
      have hB2 : Below w.heap.size w Y := by rw [hY]; exact hB1.setCell (p := ⟨w.heap.size + 1, 0, none⟩) (Nat.le_add_right _ _) _
      rw [← hY]
      refine ⟨by simp, .inl ⟨_, _, rfl, run_takeDeferred hD2, ?_⟩⟩
      refine ⟨_, results_tmp (fn := Tryz.f176) (t := 4) rfl _ _ _, _, rfl, ?_, hB2.trans (belowK_b (w := w) (Nat.le_refl _) _ _ _ _ (by omega) hD2 rfl rfl)⟩
      have e3 : fieldsL sep s.data.toList = (parts (isSep sep) s.data.toList).map (·.1) ++ [[]] := by rw [unhide HF, hb]; simp
      rw [e3, strs1_snoc, unhide HE2, List.length_append, List.length_map]
      exact own_base' (ownsRow_putObj hO2 _ hD2 rfl) (by omega)
  case stop =>
    rintro N c pre W _ _ h _
    exact h.elim

theorem fields_any (s : ByteArray) (sep : Nat) (w : World) (hs : s.size ≤ 1073741824) (hsep : sep < 256) :
    Calls Tryz.prog 176 #[.string s, .int .u8 sep] w fun e w' => ∃ v, e = .returned v ∧ w'.ownsRow w.heap.size 9 1 v (fieldsL sep s.data.toList).length (strs1 (fieldsL sep s.data.toList)) ∧ Below w.heap.size w w' := by
  by_cases h : sep = 0
  · subst h; exact fields_blank s w hs
  · exact fields_sep s sep w hs hsep (by omega)

end Go.Proofs.YtmpppdbomdepoaaGreatDoor.Ln
