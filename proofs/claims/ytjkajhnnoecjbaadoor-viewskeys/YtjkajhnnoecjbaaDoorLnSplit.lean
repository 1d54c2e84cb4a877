/- What Split answers. -/
import Derived.Test.YtjkajhnnoecjbaaDoorLnEach
import Derived.Maps.AppendAt
namespace Go.Proofs.YtjkajhnnoecjbaaDoor.Ln
open Go.RowKit Go.Shelf

attribute [local go_sem] Oper.semAt_some

theorem Tryd.infoStr : (Tryd.prog.info? 9).map (fun i => (i.zero, i.size, i.bytes)) = some (some (.string ByteArray.empty), 1, 16) := by kernel_rfl

/-- the iterator's value, whatever the function that says which bytes count -/
def itv (bs bp : Nat) : Value := .func (.func 119) #[] #[.pointer (some ⟨bs, 0, none⟩), .pointer (some ⟨bp, 0, none⟩)]

set_option maxHeartbeats 1000000 in
theorem each_any (gk : Nat) (lbk : Array Value) (s : ByteArray) (w : World) :
    Calls Tryd.prog 79 #[.agg #[.func (.func gk) #[] lbk], .string s] w fun e w' => e = .returned (itv (w.heap.size + 1) w.heap.size) ∧ w' = (w.alloc (.cells #[.func (.func gk) #[] lbk] 95)).alloc (.cells #[.string s] 9) := by
  have hmf : ∀ (fn : Fn) (first cap : Array Value) (w : World), (Instr.makeFunc fn first cap).run Tryd.prog w = .ok (.func fn first cap) w := fun _ _ _ _ => rfl
  go_enter Tryd.func79, Tryd.ntmps79
  go_wp2
  go_ret
  exact ⟨rfl, rfl⟩

set_option maxHeartbeats 1000000 in
theorem eachLine_any (s : ByteArray) (w : World) :
    Calls Tryd.prog 70 #[.string s] w fun e w' => e = .returned (itv (w.heap.size + 1) w.heap.size) ∧ w' = (w.alloc (.cells #[.func (.func 113) #[] #[]] 95)).alloc (.cells #[.string s] 9) := by
  go_enter Tryd.func70, Tryd.ntmps70
  go_wp2_with (go_at_call 79; refine (each_any _ _ _ _).mono ?_; rintro e w' ⟨rfl, rfl⟩)
  go_ret
  exact ⟨rfl, rfl⟩

/-- the two boxes that the iterator reads -/
def RdB (bs bp : Nat) (s : ByteArray) (gk : Nat) (lbk : Array Value) (W : World) : Prop :=
  Boxed W bs 9 (.string s) ∧ Boxed W bp 95 (.func (.func gk) #[] lbk)

theorem lines_itr (bs bp : Nat) (s : ByteArray) (hs : s.size ≤ 1073741824) :
    Rng.Itr Tryd.prog 119 #[.pointer (some ⟨bs, 0, none⟩), .pointer (some ⟨bp, 0, none⟩)] enc (parts isEnd s.data.toList) (RdB bs bp s 113 #[]) :=
  each1_itr bs bp s 113 #[] isEnd hs _ (fun W h => ⟨h.1.cell, h.2.cell⟩) (fun W q h => h) (enters_of Tryd.func113 (by kernel_rfl) rfl)
    (fun c W _ => (isEnd_any c.toNat W c.toNat_lt).mono fun e W' h => ⟨h.1, h.2⟩)

section boxes
variable {W w1 : World} {N : Nat} {e : TypeId} {size k m : Nat} {v v' : Value} {xs ys : List Value} {tmp : Obj}
/-- an append to a row that lies at N or above leaves a box below N -/
theorem app_box {B : Nat} {t : TypeId} {u : Value} (hB : Boxed W B t u) (hlt : B < N) (hrow : W.ownsRow N e size v k xs) (hgrow : (W.alloc tmp).grownBy w1 v.ownBlock) : Boxed w1 B t u :=
  (hB.alloc tmp).kept hgrow (fun e => by have := hrow.lt _ e.symm; omega)
theorem app_stays {B : Nat} (hN : N ≤ W.heap.size) (hrow : W.ownsRow N e size v k xs) (hgrow : (W.alloc tmp).grownBy w1 v.ownBlock) : Rng.Stays B N W w1 :=
  (Rng.Stays.alloc W tmp hN).trans (Rng.Stays.grown hgrow (by simp; omega) (fun k ek => .inr (hrow.lt _ ek).1))
theorem app_below {w : World} {n₀ : Nat} (hB : Below n₀ w W) (hn : n₀ ≤ N) (hs : n₀ ≤ w.heap.size) (hrow : W.ownsRow N e size v k xs) (hgrow : (W.alloc tmp).grownBy w1 v.ownBlock) : Below n₀ w w1 :=
  (hB.alloc (Nat.le_trans hs hB.size) tmp).grown hgrow (by have := hB.size; simp; omega) (fun j ej => by have := hrow.lt _ ej; omega)
theorem own_set {B : Nat} {u : Value} (h : W.ownsRow N e size v k xs) (hlt : B < N) : (W.setCell ⟨B, 0, none⟩ u).ownsRow N e size v k xs :=
  h.kept (grownBy_setCell' W B u) (by
    rcases h.2 with ⟨rfl, _⟩ | ⟨g, cap, cur, rfl, hb, _, _⟩
    · exact .inl rfl
    · exact .inr (fun e' => by simp [Value.ownBlock] at e'; omega))
theorem own_base' {N' : Nat} (h : W.ownsRow N e size v k xs) (hle : N' ≤ N) : W.ownsRow N' e size v k xs := by
  refine ⟨h.1, ?_⟩
  rcases h.2 with h2 | ⟨g, cap, cur, h2, hb, h3⟩
  · exact .inl h2
  · exact .inr ⟨g, cap, cur, h2, Nat.le_trans hle hb, h3⟩
end boxes

def lastB (pre : List (List UInt8 × Bool)) : Bool := (pre.getLast?.map (·.2)).getD false
theorem lastB_snoc (pre : List (List UInt8 × Bool)) (x : List UInt8 × Bool) : lastB (pre ++ [x]) = x.2 := by simp [lastB]
def strs (pre : List (List UInt8 × Bool)) : List Value := pre.map fun q => .string (bt q.1)
theorem strs_snoc (pre : List (List UInt8 × Bool)) (x : List UInt8 × Bool) : strs (pre ++ [x]) = strs pre ++ [.string (bt x.1)] := by simp [strs]

set_option maxRecDepth 100000 in
set_option maxHeartbeats 2000000 in
theorem split_any (s : ByteArray) (w : World) (hs : s.size ≤ 1073741824) :
    Calls Tryd.prog 19 #[.string s] w fun e w' => ∃ v, e = .returned (.tuple #[v, .bool (lastB (parts isEnd s.data.toList))]) ∧ w'.ownsRow w.heap.size 9 1 v (parts isEnd s.data.toList).length (strs (parts isEnd s.data.toList)) ∧ Below w.heap.size w w' := by
  obtain ⟨i0, hi, hz0, hz1, hz2⟩ := info_parts Tryd.infoStr
  have hpl : (parts isEnd s.data.toList).length ≤ 1073741824 := Nat.le_trans (parts_len _ _) hs
  refine (callsIn_wide (n := 3)).1 ?_
  refine callsIn_of_wp_marks Tryd.func19 rfl trivial ?_ rfl
  simp only [Tryd.ntmps19, List.size_toArray, List.length_cons, List.length_nil, Nat.reduceAdd, Nat.reduceSub, Array.replicate_succ, Array.replicate_zero, List.push_toArray, List.append_toArray, List.nil_append, List.cons_append]
  gi_wp2_with (refine ⟨trivial, ?_⟩; gi_at_call 70; refine (callsIn_wide.2 (eachLine_any _ _)).mono ?_; rintro e w' ⟨rfl, rfl⟩)
  have bL := (((Boxed.new w 25 (.slice none 0 0)).alloc (.cells #[.bool false] 4)).alloc (.cells #[.func (.func 113) #[] #[]] 95)).alloc (.cells #[.string s] 9)
  have bE := ((Boxed.new (w.alloc (.cells #[.slice none 0 0] 25)) 4 (.bool false)).alloc (.cells #[.func (.func 113) #[] #[]] 95)).alloc (.cells #[.string s] 9)
  have bP := (Boxed.new ((w.alloc (.cells #[.slice none 0 0] 25)).alloc (.cells #[.bool false] 4)) 95 (.func (.func 113) #[] #[])).alloc (.cells #[.string s] 9)
  have bS := Boxed.new (((w.alloc (.cells #[.slice none 0 0] 25)).alloc (.cells #[.bool false] 4)).alloc (.cells #[.func (.func 113) #[] #[]] 95)) 9 (.string s)
  have hB0 : Below w.heap.size w ((((w.alloc (.cells #[.slice none 0 0] 25)).alloc (.cells #[.bool false] 4)).alloc (.cells #[.func (.func 113) #[] #[]] 95)).alloc (.cells #[.string s] 9)) :=
    ((((Below.refl _ w).alloc (Nat.le_refl _) _).alloc (by simp) _).alloc (by simp; omega) _).alloc (by simp; omega) _
  rw [World.size_alloc] at bE
  rw [World.size_alloc, World.size_alloc] at bP
  rw [World.size_alloc, World.size_alloc, World.size_alloc] at bS
  have hsz : ((((w.alloc (.cells #[.slice none 0 0] 25)).alloc (.cells #[.bool false] 4)).alloc (.cells #[.func (.func 113) #[] #[]] 95)).alloc (.cells #[.string s] 9)).heap.size = w.heap.size + 4 := by simp
  generalize ((((w.alloc (.cells #[.slice none 0 0] 25)).alloc (.cells #[.bool false] 4)).alloc (.cells #[.func (.func 113) #[] #[]] 95)).alloc (.cells #[.string s] 9)) = W0 at *
  refine Rng.range (gf := 119) (lb := #[.pointer (some ⟨w.heap.size + 3, 0, none⟩), .pointer (some ⟨w.heap.size + 2, 0, none⟩)]) rfl (enters_of Tryd.func119 (by kernel_rfl) rfl)
    (lines_itr (w.heap.size + 3) (w.heap.size + 2) s hs) (fun _ => rfl)
    (fun N pre W => (∃ v, Boxed W w.heap.size 25 v ∧ W.ownsRow N 9 1 v pre.length (strs pre) ∧ True) ∧ Boxed W (w.heap.size + 1) 4 (.bool (lastB pre)) ∧ RdB (w.heap.size + 3) (w.heap.size + 2) s 113 #[] W ∧ Below w.heap.size w W)
    (fun _ _ _ _ => False)
    (fun N => OwnFrom.and (Own.from (holdsRow_own N w.heap.size 25 9 1 (fun pre => pre.length) strs (fun _ _ => True)) _) (OwnFrom.and (Own.from (boxed_own _ _ (fun pre => .bool (lastB pre))) _) (OwnFrom.and (OwnFrom.and (Own.from (boxed_own _ _ (fun _ => .string s)) _) (Own.from (boxed_own _ _ (fun _ => .func (.func 113) #[] #[])) _)) (ownFrom_below (Nat.le_refl _) (by omega)))))
    (fun _ _ _ _ _ _ hs _ _ => hs) (fun _ _ _ h => h.2.2.1)
    (fun N => ⟨⟨_, bL, World.ownsRow_nil _ _ _ _, trivial⟩, bE, ⟨bS, bP⟩, hB0⟩)
    (fun x => { tmps := #[.string s, undef, .slice none 0 0, .bool false, .pointer (some ⟨w.heap.size, 0, none⟩), .pointer (some ⟨w.heap.size + 1, 0, none⟩), .string (bt x.1), .bool x.2, .string s, itv (w.heap.size + 3) (w.heap.size + 2), .string (bt x.1), .bool x.2, undef, undef, undef, undef, undef, undef, undef], defers := [] }) ?assign ?body ?done ?stop
  case assign =>
    intro m l x W K hK
    simp only [enc]
    gi_wp2
    exact hK
  case body =>
    rintro m l N pre x W ⟨⟨v, hv, hrow, _⟩, hE, hR, hB⟩ hpre hN1 hN2
    have hc := hv.cell
    have hplt : pre.length + 1 ≤ 1073741824 := by have := hpre.length_le; simp at this; omega
    rw [hsz] at hN1
    gi_wp2_with (gi_at_builtin; refine wpListIn_append_own _ rfl _ _ 25 rfl N 9 i0 _ 1 16 Tryd.underlying25 hi hz0 hz1 hz2 rfl (by decide) _ _ _ rfl (hrow.alloc _) ⟨W.heap.size, 0, none⟩ 1 1 [.string (bt x.1)] rfl rfl (cell_one_new _ _ _) (by simp [Value.oneCell']) (by unfold maxLen; omega) (by omega) (by simp; omega) ?_; intro v' w1 hown' hgrow _; obtain ⟨g', cap', rfl⟩ := ownsRow_succ hown'; have hv1 := app_box hv (by omega) hrow hgrow; have hE1 := app_box hE (by omega) hrow hgrow; have hS1 := app_box hR.1 (by omega) hrow hgrow; have hP1 := app_box hR.2 (by omega) hrow hgrow; have hK1 := app_stays (B := W0.heap.size) hN2 hrow hgrow; have hB1 := app_below hB (by omega) (Nat.le_refl _) hrow hgrow; have hc1 := hv1.cell; have hf1 := hv1.frozen; have hc2 := (hE1.other (B' := w.heap.size) (by omega) (Value.slice (some ⟨g', 0, none⟩) (pre.length + 1) cap')).cell; have hf2 := (hE1.other (B' := w.heap.size) (by omega) (Value.slice (some ⟨g', 0, none⟩) (pre.length + 1) cap')).frozen)
    refine ⟨hK1.trans ((Rng.Stays.set _ _ _ (by omega)).trans (Rng.Stays.set _ _ _ (by omega))), ⟨_, (hv1.set _).other (by omega) _, ?_, trivial⟩, ?_, ⟨(hS1.other (by omega) _).other (by omega) _, (hP1.other (by omega) _).other (by omega) _⟩, (hB1.setCell (p := ⟨w.heap.size, 0, none⟩) (Nat.le_refl _) _).setCell (p := ⟨w.heap.size + 1, 0, none⟩) (Nat.le_succ _) _⟩
    · rw [strs_snoc, List.length_append]
      exact own_set (own_set hown' (by omega)) (by omega)
    · rw [lastB_snoc]
      exact (hE1.other (by omega) _).set _
  case done =>
    rintro N W hN ⟨⟨v, hv, hrow, _⟩, hE, hR, hB⟩ hD
    have hc := hv.cell
    have hc2 := hE.cell
    gi_wp2
    refine wpIn_wide.2 ?_
    go_quiet (fail)
    gi_wp2
    have hD' : (W.drewN nq).heap[W0.heap.size]? = some (.deferred (some [])) := hD
    have hr' : (W.drewN nq).ownsRow N 9 1 v (parts isEnd s.data.toList).length (strs (parts isEnd s.data.toList)) := hrow
    have hB' : Below w.heap.size w (W.drewN nq) := ⟨hB.os, hB.tape, hB.output, hB.size, hB.block⟩
    refine ⟨by simp, .inl ⟨_, _, rfl, run_takeDeferred hD', ?_⟩⟩
    refine ⟨.tuple #[v, .bool (lastB (parts isEnd s.data.toList))], ?_, v, rfl, own_base' (ownsRow_putObj hr' _ hD' rfl) (by omega), hB'.trans (belowK_b (w := w) (Nat.le_refl _) _ _ _ _ (by omega) hD' rfl rfl)⟩
    exact results_tmp2 (fn := Tryd.f19) (t := 2) (u := 3) rfl _ _ _
  case stop =>
    rintro N c pre W _ _ h _
    exact h.elim

end Go.Proofs.YtjkajhnnoecjbaaDoor.Ln
