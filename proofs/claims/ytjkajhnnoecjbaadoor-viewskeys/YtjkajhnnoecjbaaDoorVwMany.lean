/- Too many pairs? -/
import Derived.Test.YtjkajhnnoecjbaaDoorVwPairs
import Derived.Test.YtjkajhnnoecjbaaDoorLnSplit
set_option linter.unusedVariables false
namespace Go.Proofs.YtjkajhnnoecjbaaDoor.Vw
open Go.RowKit Go.Shelf Cu
open Pa (Tx tot)

attribute [local go_sem] Oper.semAt_some

theorem fold2 (F : Array Value) (i j : Nat) (u v : Value) : (#[i, j].zip #[u, v]).foldl (fun t (x : Nat × Value) => match x with | (p, v) => t.setIfInBounds p v) F = (F.setIfInBounds i u).setIfInBounds j v := by
  rw [show #[i, j].zip #[u, v] = #[(i, u), (j, v)] from by apply Array.ext'; simp]
  rfl
theorem keeps_refl {B : Nat} {K : Obj → Prop} (W : World) : Rng.KeepsBut B K W W := ⟨Nat.le_refl _, fun _ _ _ _ => rfl⟩
theorem keeps_set {B b : Nat} {K : Obj → Prop} (W : World) (v : Value) (h : b < B) : Rng.KeepsBut B K W (W.setCell ⟨b, 0, none⟩ v) :=
  ⟨(grownBy_setCell' W b v).size, fun k h1 _ _ => Below.heap_setCell _ _ _ k (fun e => by simp at e; omega)⟩
theorem keeps_two {B b c : Nat} {K : Obj → Prop} (W : World) (u v : Value) (h : b < B) (h' : c < B) : Rng.KeepsBut B K W ((W.setCell ⟨b, 0, none⟩ u).setCell ⟨c, 0, none⟩ v) :=
  ⟨Nat.le_trans (grownBy_setCell' W b u).size (grownBy_setCell' _ c v).size, fun k h1 _ _ => (Below.heap_setCell _ _ _ k (fun e => by simp at e; omega)).trans (Below.heap_setCell _ _ _ k (fun e => by simp at e; omega))⟩
theorem grown_self (W : World) : W.grownBy W none := ⟨rfl, rfl, rfl, Nat.le_refl _, fun _ _ _ => rfl⟩
theorem res_many (tmps : Array Value) (w : World) (b : Nat) {v : Bool} (ht : tmps.getD 4 undef = .pointer (some ⟨b, 0, none⟩)) (hb : Boxed w b 4 (.bool v)) :
    (results Tryd.f68 tmps).run Tryd.prog w = .ok (.bool v) w := by
  have q := hb.cell
  rw [Array.getD_eq_getD_getElem?] at ht
  simp [results, Tryd.f68, go_sem, ht, q]
theorem boxed_put' {W : World} {b l : Nat} {t : TypeId} {v : Value} {o o' : Obj} (h : Boxed W b t v) (hl : W.heap[l]? = some o) (ho : o.isCells = false) : Boxed (W.putObj l o') b t v :=
  (boxed_own b t (fun _ : Unit => v)) () W _ (some l) h (grownBy_putObj' W l o') (fun r e => by cases e; exact ⟨o, hl, ho⟩)

set_option maxRecDepth 100000 in
set_option maxHeartbeats 2000000 in
theorem tooMany_any (a b : Option Addr) (n m ca cb : Nat) (A B : List Rw) (w : World) (hn : n ≤ 1048577) (hm : m ≤ 1048577) (hsa : sortedP A = true) (hsb : sortedP B = true) (hRa : Rr w a n A) (hRb : Rr w b m B) :
    Calls Tryd.prog 68 #[.slice a n ca, .slice b m cb] w fun e w' => e = .returned (.bool (decide (65536 < (pairsP A B).length))) ∧ Below w.heap.size w w' := by
  refine (callsIn_wide (n := 3)).1 ?_
  refine callsIn_of_wp_marks Tryd.func68 rfl trivial ?_ rfl
  simp only [Tryd.ntmps68, List.size_toArray, List.length_cons, List.length_nil, Nat.reduceAdd, Nat.reduceSub, Array.replicate_succ, Array.replicate_zero, List.push_toArray, List.append_toArray, List.nil_append, List.cons_append]
  gi_wp2_with (refine ⟨trivial, ?_⟩; gi_at_call 69; refine (callsIn_wide.2 (pairs_any _ _ _ _ _ _ _)).mono ?_; rintro e w' ⟨rfl, rfl⟩)
  have bR := (((Boxed.new w 4 (.bool false)).alloc (.cells #[.int .i64 0] 3)).alloc (.cells #[.slice a n ca] 68)).alloc (.cells #[.slice b m cb] 68)
  have bN := ((Boxed.new (w.alloc (.cells #[.bool false] 4)) 3 (.int .i64 0)).alloc (.cells #[.slice a n ca] 68)).alloc (.cells #[.slice b m cb] 68)
  have bA := (Boxed.new ((w.alloc (.cells #[.bool false] 4)).alloc (.cells #[.int .i64 0] 3)) 68 (.slice a n ca)).alloc (.cells #[.slice b m cb] 68)
  have bB := Boxed.new (((w.alloc (.cells #[.bool false] 4)).alloc (.cells #[.int .i64 0] 3)).alloc (.cells #[.slice a n ca] 68)) 68 (.slice b m cb)
  have hB0 : Below w.heap.size w ((((w.alloc (.cells #[.bool false] 4)).alloc (.cells #[.int .i64 0] 3)).alloc (.cells #[.slice a n ca] 68)).alloc (.cells #[.slice b m cb] 68)) :=
    ((((Below.refl _ w).alloc (Nat.le_refl _) _).alloc (by simp) _).alloc (by simp; omega) _).alloc (by simp; omega) _
  rw [World.size_alloc] at bN
  rw [World.size_alloc, World.size_alloc] at bA
  rw [World.size_alloc, World.size_alloc, World.size_alloc] at bB
  have hsz : ((((w.alloc (.cells #[.bool false] 4)).alloc (.cells #[.int .i64 0] 3)).alloc (.cells #[.slice a n ca] 68)).alloc (.cells #[.slice b m cb] 68)).heap.size = w.heap.size + 4 := by simp
  generalize ((((w.alloc (.cells #[.bool false] 4)).alloc (.cells #[.int .i64 0] 3)).alloc (.cells #[.slice a n ca] 68)).alloc (.cells #[.slice b m cb] 68)) = W0 at *
  refine Rng.range4 (gf := 112) (lb := #[.pointer (some ⟨w.heap.size + 1 + 1, 0, none⟩), .pointer (some ⟨w.heap.size + 1 + 1 + 1, 0, none⟩)]) rfl (enters_of Tryd.func112 (by kernel_rfl) rfl)
    (pairs_itr (w.heap.size + 1 + 1) (w.heap.size + 1 + 1 + 1) a b n m ca cb A B hn hm hsb hsa (fun W => Boxed W (w.heap.size + 1 + 1) 68 (.slice a n ca) ∧ Boxed W (w.heap.size + 1 + 1 + 1) 68 (.slice b m cb) ∧ Rr W a n A ∧ Rr W b m B) (fun W h => h)) (fun _ => rfl)
    (fun pre W => Boxed W (w.heap.size + 1) 3 (.int .i64 (pre.length : Int)) ∧ Boxed W w.heap.size 4 (.bool false) ∧ Boxed W (w.heap.size + 1 + 1) 68 (.slice a n ca) ∧ Boxed W (w.heap.size + 1 + 1 + 1) 68 (.slice b m cb) ∧ Below w.heap.size w W ∧ pre.length ≤ 65536)
    (fun c pre W => (c = .ret ∧ 65536 < pre.length) ∧ Boxed W w.heap.size 4 (.bool true) ∧ Below w.heap.size w W)
    (fun _ => False)
    (OwnFrom.and (Own.from (boxed_own _ _ (fun pre : List (Rw × Rw) => .int .i64 (pre.length : Int))) _) (OwnFrom.and (Own.from (boxed_own _ _ (fun _ => .bool false)) _) (OwnFrom.and (Own.from (boxed_own _ _ (fun _ => .slice a n ca)) _) (OwnFrom.and (Own.from (boxed_own _ _ (fun _ => .slice b m cb)) _) (OwnFrom.and (ownFrom_below (Nat.le_refl _) (by omega)) (fun _ _ _ _ h _ _ => h))))))
    (fun c => OwnFrom.and (fun _ _ _ _ h _ _ => h) (OwnFrom.and (Own.from (boxed_own _ _ (fun _ => .bool true)) _) (ownFrom_below (Nat.le_refl _) (by omega))))
    (fun _ h => h.elim) (fun _ _ h => h)
    (fun pre W h => ⟨h.2.2.1, h.2.2.2.1, hRa.below h.2.2.2.2.1, hRb.below h.2.2.2.2.1⟩)
    ⟨bN, bR, bA, bB, hB0, by simp⟩
    (fun x _ => { tmps := #[.slice a n ca, .slice b m cb, undef, undef, .pointer (some ⟨w.heap.size, 0, none⟩), .pointer (some ⟨w.heap.size + 1, 0, none⟩), .slice a n ca, .slice b m cb, .func (.func 112) #[] #[.pointer (some ⟨w.heap.size + 1 + 1, 0, none⟩), .pointer (some ⟨w.heap.size + 1 + 1 + 1, 0, none⟩)], rv x.1, rv x.2, undef, undef, undef, undef], defers := [] }) (fun _ W => W) (fun _ W => grown_self W) ?assign ?body ?done ?stop
  case assign =>
    intro m l x W K hK
    refine wpIn_skip ?_
    simp only [encP, fold2, List.setIfInBounds_toArray, List.set_cons_zero, List.set_cons_succ]
    exact hK
  case body =>
    rintro m l pre x Wo W ⟨hN, hR, hA, hB', hBl, hlen⟩ hgo hpre hsW
    have hc := hN.cell
    have hf := hN.frozen
    have hc2 := hR.cell
    have hf2 := hR.frozen
    have hlp : ((pre ++ [x]).length : Int) = (pre.length : Int) + 1 := by simp
    by_cases hbig : 65536 < pre.length + 1
    · have hbig' : (65536 : Int) < (pre.length : Int) + 1 := by omega
      gi_wp2
      exact ⟨keeps_two _ _ _ (by omega) (by omega), ⟨rfl, by simp; omega⟩, (hR.other (by omega) _).set _, (hBl.setCell (p := ⟨w.heap.size + 1, 0, none⟩) (Nat.le_add_right _ _) _).setCell (p := ⟨w.heap.size, 0, none⟩) (Nat.le_refl _) _⟩
    · have hbig' : ¬ (65536 : Int) < (pre.length : Int) + 1 := by omega
      gi_wp2
      refine ⟨keeps_set _ _ (by omega), ?_, hR.other (by omega) _, hA.other (by omega) _, hB'.other (by omega) _, hBl.setCell (p := ⟨w.heap.size + 1, 0, none⟩) (Nat.le_add_right _ _) _, by simp; omega⟩
      rw [hlp]
      exact hN.set _
  case done =>
    rintro W hW ⟨hN, hR, hA, hB', hBl, hlen⟩ hD
    have hc2 := hR.cell
    have hf2 := hR.frozen
    gi_wp2
    have hD' : (W.setCell ⟨w.heap.size, 0, none⟩ (.bool false)).heap[W0.heap.size]? = some (.deferred (some [])) := (Below.heap_setCell _ _ _ _ (by simp; omega)).trans hD
    have hR' := hR.set (.bool false)
    have hB2 := hBl.setCell (p := ⟨w.heap.size, 0, none⟩) (Nat.le_refl _) (.bool false)
    refine ⟨by simp, .inl ⟨_, _, rfl, run_takeDeferred hD', ?_⟩⟩
    have hR2 := fun o' => boxed_put' (o' := o') hR' hD' rfl
    exact ⟨_, res_many _ _ _ rfl (hR2 _), by rw [decide_eq_false (by omega)], hB2.trans (belowK_b (w := w) (Nat.le_refl _) _ _ _ _ (by omega) hD' rfl rfl)⟩
  case stop =>
    rintro c pre W hW hpre ⟨⟨rfl, hlen⟩, hR, hBl⟩ hD
    have hc2 := hR.cell
    have hlt : 65536 < (pairsP A B).length := Nat.lt_of_lt_of_le hlen hpre.length_le
    gi_wp2
    refine ⟨by simp, .inl ⟨_, _, rfl, run_takeDeferred hD, ?_⟩⟩
    have hR2 := fun o' => boxed_put' (o' := o') hR hD rfl
    exact ⟨_, res_many _ _ _ rfl (hR2 _), by rw [decide_eq_true hlt], hBl.trans (belowK_b (w := w) (Nat.le_refl _) _ _ _ _ (by omega) hD rfl rfl)⟩
end Go.Proofs.YtjkajhnnoecjbaaDoor.Vw
