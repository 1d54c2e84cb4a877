/- A range over a function whose iterator calls itself and lays boxes of its own between rounds: a round keeps every block but the body's rows (R). -/
import Derived.Test.YtbajjbgeohbdjaaRng
namespace Go.Proofs.Ytbajjbgeohbdjaa.Rng
open Go.RowKit

/-- Blocks from B on that are none of R lie as they lay; what is in R' was in R or is new. -/
structure RMove (B : Nat) (R R' : Nat → Prop) (W W' : World) : Prop where
  size : W.heap.size ≤ W'.heap.size
  block : ∀ k, B ≤ k → k < W.heap.size → ¬ R k → W'.heap[k]? = W.heap[k]?
  row : ∀ k, R' k → k < W'.heap.size ∧ (R k ∨ W.heap.size ≤ k)
theorem RMove.refl {B : Nat} {R : Nat → Prop} {W : World} (h : ∀ k, R k → k < W.heap.size) : RMove B R R W W := ⟨Nat.le_refl _, fun _ _ _ _ => rfl, fun k hk => ⟨h k hk, .inl hk⟩⟩
theorem RMove.trans {B : Nat} {R R' R'' : Nat → Prop} {X Y Z : World} (h : RMove B R R' X Y) (k : RMove B R' R'' Y Z) : RMove B R R'' X Z :=
  ⟨Nat.le_trans h.size k.size, fun i h1 h2 h3 => (k.block i h1 (Nat.lt_of_lt_of_le h2 h.size) (fun h4 => by
    rcases (h.row i h4).2 with q | q
    · exact h3 q
    · omega)).trans (h.block i h1 h2 h3), fun i hi => ⟨(k.row i hi).1, by
    rcases (k.row i hi).2 with q | q
    · exact (h.row i q).2
    · exact .inr (Nat.le_trans h.size q)⟩⟩
theorem RMove.mono {B B' : Nat} {R R' : Nat → Prop} {X Y : World} (h : RMove B R R' X Y) (hB : B ≤ B') : RMove B' R R' X Y := ⟨h.size, fun k h1 => h.block k (Nat.le_trans hB h1), h.row⟩
theorem RMove.grown {B : Nat} {R : Nat → Prop} {X Y : World} (hR : ∀ k, R k → k < X.heap.size) (h : X.grownBy Y none) : RMove B R R X Y :=
  ⟨h.size, fun k _ h2 _ => h.block k h2 (fun e => by cases e), fun k hk => ⟨Nat.lt_of_lt_of_le (hR k hk) h.size, .inl hk⟩⟩
theorem RMove.put {B : Nat} {R : Nat → Prop} {X : World} (l : Nat) (o : Obj) (hR : ∀ k, R k → k < X.heap.size) (hl : l < B) : RMove B R R X (X.putObj l o) := by
  have h := grownBy_putObj' X l o
  exact ⟨h.size, fun k h1 h2 _ => h.block k h2 (fun e => by have := Option.some.inj e; omega), fun k hk => ⟨Nat.lt_of_lt_of_le (hR k hk) h.size, .inl hk⟩⟩
theorem RMove.own_set5 {B : Nat} {R R' : Nat → Prop} {X Y : World} (h : RMove B R R' X Y) (b o : Nat) (v : Value) (hb : X.heap.size ≤ b) : RMove B R R' X (Y.setCell ⟨b, o, none⟩ v) :=
  ⟨by simpa using h.size, fun k h1 h2 h3 => (Below.heap_setCell _ _ _ _ (by show k ≠ b; omega)).trans (h.block k h1 h2 h3), fun k hk => by simpa using h.row k hk⟩
/-- what is laid into the iterator's own variables changes nothing of it -/
def KeptR {α : Type} (b0 : Nat) (J : (Nat → Prop) → List α → World → Prop) : Prop := ∀ R pre W b o v, b0 ≤ b → ¬ R b → J R pre W → J R pre (W.setCell ⟨b, o, none⟩ v)

/-- An iterator's word. -/
def Itr4 {α : Type} (P : Program) (g : Nat) (lb : Array Value) (encs : α → Array Value) (xs : List α) (rd : World → Prop) : Prop :=
  ∀ (l : Nat) (J Jx : (Nat → Prop) → List α → World → Prop) (R0 : Nat → Prop) (W : World), (∀ R, OwnFrom W.heap.size (J R)) → (∀ R, OwnFrom W.heap.size (Jx R)) → KeptR W.heap.size J → (∀ k, R0 k → k < W.heap.size) → (∀ R pre W1, J R pre W1 → rd W1) →
    (∀ m R pre x W1, W.heap.size ≤ W1.heap.size → (∀ k, R k → k < W1.heap.size) → J R pre W1 → pre ++ [x] <+: xs → YieldAt Fence.wide m P l (encs x) W1 fun e W' =>
      ∃ R', RMove W.heap.size R R' W1 W' ∧ ((e = .returned (.bool true) ∧ J R' (pre ++ [x]) W') ∨ (e = .returned (.bool false) ∧ Jx R' (pre ++ [x]) W'))) →
    J R0 [] W → Calls P g (#[.func (.yield l) #[] #[]] ++ lb) W fun e W' => (∃ v, e = .returned v) ∧ ∃ R, J R xs W' ∨ ∃ pre, pre <+: xs ∧ Jx R pre W'

/-- How a round's body may be left. -/
def post5 {α : Type} (B : Nat) (R : Nat → Prop) (I : (Nat → Prop) → List α → World → Prop) (Ix : Code → (Nat → Prop) → List α → World → Prop) (xs : List α) (W : World) : Exit → Act → World → Prop
  | .normal, _, W' => ∃ R', RMove B R R' W W' ∧ I R' xs W'
  | .ret, _, W' => ∃ R', RMove B R R' W W' ∧ Ix .ret R' xs W'
  | .exit id, _, W' => ∃ R', RMove B R R' W W' ∧ Ix (.exit id) R' xs W'
  | .goto t, _, W' => ∃ R', RMove B R R' W W' ∧ Ix (.goto t) R' xs W'
  | .panic _, _, _ => False
  | .outgrown, _, _ => False

/-- The loop 'for .. := range g { .. }', outermost in its function; its variables are laid anew in each round. -/
theorem range5 {α : Type} {n : Nat} {P : Program} {g : Operand} {ps : Array Tmp} {assign body : Code} {Q : Exit → Act → World → Prop} {a : Act} {w : World}
    {gf : Nat} {lb : Array Value} (hg : a.eval g = .func (.func gf) #[] lb) (eg : ∀ args w, (callFunc gf args).run P w = .ok (.enter gf args) w)
    {encs : α → Array Value} {xs : List α} {rd : World → Prop} (hit : Itr4 P gf lb encs xs rd) (hps : ∀ x, (encs x).size = ps.size)
    (I : (Nat → Prop) → List α → World → Prop) (Ix : Code → (Nat → Prop) → List α → World → Prop) (R0 : Nat → Prop) (hI : ∀ R, OwnFrom w.heap.size (I R)) (hIx : ∀ c R, OwnFrom w.heap.size (Ix c R)) (hset : KeptR (w.heap.size + 2) I) (hR0 : ∀ k, R0 k → k < w.heap.size) (hrd : ∀ R pre W, I R pre W → rd W) (h0 : I R0 [] w) (a₁ : α → World → Act) (w₁ : α → World → World) (hw₁ : ∀ (x : α) (W : World), W.grownBy (w₁ x W) none)
    (hassign : ∀ (m l : Nat) (x : α) (W : World) (K : Act → World → Prop), K (a₁ x W) (w₁ x W) →
      assign.wpIn (Fence.wide.inRound l) m P (Exit.then K (fun _ _ _ => False)) { tmps := (ps.zip (encs x)).foldl (fun t (p, v) => t.setIfInBounds p v) a.tmps, defers := [] } W)
    (hbody : ∀ (m l : Nat) (R : Nat → Prop) (pre : List α) (x : α) (W U : World), I R pre U → (∀ k, R k → k < W.heap.size) → (w₁ x W).grownBy U (some (w.heap.size + 1)) → pre ++ [x] <+: xs → w.heap.size + 2 ≤ W.heap.size → body.wpIn (Fence.wide.inRound l) m P (post5 w.heap.size R I Ix (pre ++ [x]) U) (a₁ x W) U)
    (hdone : ∀ (R : Nat → Prop) (W : World), w.heap.size + 2 ≤ W.heap.size → I R xs W → W.heap[w.heap.size]? = some (.deferred (some [])) → Q .normal { a with defers := { target := .collected w.heap.size, args := #[] } :: a.defers } W)
    (hstop : ∀ (c : Code) (R : Nat → Prop) (pre : List α) (W : World), w.heap.size + 2 ≤ W.heap.size → pre <+: xs → Ix c R pre W → W.heap[w.heap.size]? = some (.deferred (some [])) → c.wpIn Fence.wide n P Q { a with defers := { target := .collected w.heap.size, args := #[] } :: a.defers } W) :
    (Code.rangeFunc g ps assign body).wpIn Fence.wide n P Q a w := by
  have hnd : Fence.wide.depth.isSome = true → 1 ≤ n := fun h => by simp [Fence.wide] at h
  refine wpIn_rangeFunc fun fn hfn => ?_
  let R : LoopState → Option Code → Loop := fun st pe => { state := st, pending := pe, fn, tmps := a.tmps, params := ps, assign, body, defers := w.heap.size }
  have hR : ∀ st pe, R st pe = { state := st, pending := pe, fn, tmps := a.tmps, params := ps, assign, body, defers := w.heap.size } := fun _ _ => rfl
  clear_value R
  obtain ⟨V, hV⟩ : ∃ V, V = (w.alloc (.deferred (some []))).alloc (.loop (R .ready none)) := ⟨_, rfl⟩
  have hVs : V.heap.size = w.heap.size + 2 := by rw [hV]; simp
  have hVl : V.heap[w.heap.size + 1]? = some (.loop (R .ready none)) := by
    have := World.alloc_heap_new (w.alloc (.deferred (some []))) (.loop (R .ready none)); rw [World.size_alloc] at this; rw [hV]; exact this
  have hVd : V.heap[w.heap.size]? = some (.deferred (some [])) := by
    rw [hV]; exact (Below.heap_alloc _ _ _ (by simp)).trans (World.alloc_heap_new w _)
  have h0V : I R0 [] V := by rw [hV]; exact (hI R0).alloc _ ((hI R0).alloc _ h0)
  refine ⟨w.heap.size + 1, [{ target := .collected w.heap.size, args := #[] }], V, { target := .fn (.func gf) lb, args := #[.func (.yield (w.heap.size + 1)) #[] #[]] }, V, gf,
    #[.func (.yield (w.heap.size + 1)) #[] #[]] ++ lb, V, ?_, ?_, fun _ _ => trivial, ?_, hnd, ?_⟩
  · rw [hV, hR]; exact run_enterLoop_outer _ _ _ _ _
  · simp only [resolve, hg]; simp [go_sem]
  · simp [invoke, go_sem, eg]
  refine callsIn_wide.2 ?_
  have back : ∀ {A : World} {row : Option Nat}, (∀ r, row = some r → V.heap.size ≤ r ∧ ∃ o : Obj, A.heap[r]? = some o ∧ o.isCells = false) → (∀ r, row = some r → w.heap.size ≤ r ∧ ∃ o : Obj, A.heap[r]? = some o ∧ o.isCells = false) :=
    fun hr r e => ⟨by have := (hr r e).1; omega, (hr r e).2⟩
  have stay : ∀ {A B : World} {row : Option Nat} {k : Nat} {o : Obj}, k < V.heap.size → A.grownBy B row → (∀ r, row = some r → V.heap.size ≤ r ∧ ∃ o : Obj, A.heap[r]? = some o ∧ o.isCells = false) → A.heap[k]? = some o → B.heap[k]? = some o :=
    fun hk hg' hr h => (hg'.block _ (Array.getElem?_eq_some_iff.1 h).1 (fun e => by have := (hr _ e.symm).1; omega)).trans h
  refine Calls.mono (hit (w.heap.size + 1)
    (fun R1 pre W => (I R1 pre W ∧ W.heap[w.heap.size + 1]? = some (.loop (R .ready none)) ∧ W.heap[w.heap.size]? = some (.deferred (some []))) ∧ ∀ k, R1 k → k ≠ w.heap.size ∧ k ≠ w.heap.size + 1)
    (fun R1 pre W => ∃ c, Ix c R1 pre W ∧ W.heap[w.heap.size + 1]? = some (.loop (R .done (some c))) ∧ W.heap[w.heap.size]? = some (.deferred (some [])))
    R0 V ?_ ?_ (fun R1 pre W1 b o v hb1 hb2 h => ⟨⟨hset R1 pre W1 b o v (by omega) hb2 h.1.1, (Below.heap_setCell _ _ _ _ (by simp; omega)).trans h.1.2.1, (Below.heap_setCell _ _ _ _ (by simp; omega)).trans h.1.2.2⟩, h.2⟩) (fun k hk => by have := hR0 k hk; omega) (fun R1 pre W1 h => hrd R1 pre W1 h.1.1) ?_ ⟨⟨h0V, hVl, hVd⟩, fun k hk => by have := hR0 k hk; omega⟩) ?_
  · exact fun R1 s A B row hs hg' hr => ⟨⟨hI R1 s A B row hs.1.1 hg' (back hr), stay (by omega) hg' hr hs.1.2.1, stay (by omega) hg' hr hs.1.2.2⟩, hs.2⟩
  · rintro R1 s A B row ⟨c, hc, h2, h3⟩ hg' hr
    exact ⟨c, hIx c R1 s A B row hc hg' (back hr), stay (by omega) hg' hr h2, stay (by omega) hg' hr h3⟩
  · rintro m R1 pre x W hN1 hRW ⟨⟨hi, hl, hd⟩, hRn⟩ hpre
    have hlt : w.heap.size + 1 < W.heap.size := (Array.getElem?_eq_some_iff.1 hl).1
    have hy := run_yield (P := P) (args := encs x) hl (by rw [hR]; exact hps x)
    have hg1 := hw₁ x W
    obtain ⟨W1, hW1⟩ : ∃ W1, W1 = w₁ x W := ⟨_, rfl⟩
    rw [← hW1] at hg1
    have hs1 : W.heap.size ≤ W1.heap.size := hg1.size
    have hi1 : I R1 pre W1 := hI R1 pre W W1 none hi hg1 (fun r e => by cases e)
    have hl1 : W1.heap[w.heap.size + 1]? = some (.loop (R .ready none)) := (hg1.block _ hlt (fun e => by cases e)).trans hl
    have hd1 : W1.heap[w.heap.size]? = some (.deferred (some [])) := (hg1.block _ (by omega) (fun e => by cases e)).trans hd
    have hb := run_beginRound (P := P) hl1 (by rw [hR])
    obtain ⟨U, hU⟩ : ∃ U, U = W1.putObj (w.heap.size + 1) (.loop { R .ready none with state := .busy }) := ⟨_, rfl⟩
    rw [← hU] at hb
    have hUl : U.heap[w.heap.size + 1]? = some (.loop (R .busy none)) := by rw [hU, World.putObj_heap_same (by omega), hR, hR]
    have hUd : U.heap[w.heap.size]? = some (.deferred (some [])) := by rw [hU]; exact (World.putObj_heap_other (by omega)).trans hd1
    have hUi : I R1 pre U := by rw [hU]; exact (hI R1).putObj _ hi1 (by omega) hl1 rfl
    have hUg1 : W1.grownBy U (some (w.heap.size + 1)) := by rw [hU]; exact grownBy_putObj' W1 (w.heap.size + 1) _
    have hUb : ∀ k, k < W.heap.size → k ≠ w.heap.size + 1 → U.heap[k]? = W.heap[k]? := fun k h1 h2 => (hUg1.block k (by omega) (fun e => h2 (Option.some.inj e))).trans (hg1.block k h1 (fun e => by cases e))
    have hUs : W.heap.size ≤ U.heap.size := Nat.le_trans hs1 hUg1.size
    rw [hR] at hy
    refine ⟨fn, _, assign, body, hy, roundIn_of_wpIn hfn (hassign _ _ x W _ ⟨U, by rw [← hW1]; exact hb, wpIn_mono (hbody _ _ R1 pre x W U hUi hRW (by rw [← hW1]; exact hUg1) hpre (by omega)) ?_⟩)⟩
    have fin : ∀ (j : Option Code) (X : World) (R' : Nat → Prop), RMove w.heap.size R1 R' U X → ∃ X', (Instr.endRound (w.heap.size + 1) j).run P X = .ok (.bool j.isNone) X' ∧ X' = X.putObj (w.heap.size + 1) (.loop (R (if j.isNone then .ready else .done) j)) ∧
        X.heap[w.heap.size + 1]? = some (.loop (R .busy none)) ∧ X'.heap[w.heap.size + 1]? = some (.loop (R (if j.isNone then .ready else .done) j)) ∧ X'.heap[w.heap.size]? = some (.deferred (some [])) ∧ RMove V.heap.size R1 R' W X' ∧ ∀ k, R' k → k ≠ w.heap.size ∧ k ≠ w.heap.size + 1 := by
      intro j X R' hk
      have h1 := (hk.block (w.heap.size + 1) (by omega) (by omega) (fun h => (hRn _ h).2 rfl)).trans hUl
      have h2 := (hk.block w.heap.size (Nat.le_refl _) (by omega) (fun h => (hRn _ h).1 rfl)).trans hUd
      have h3 := run_endRound (P := P) j h1
      have hXs := hk.size
      have hsz2 : ∀ o, X.heap.size ≤ (X.putObj (w.heap.size + 1) o).heap.size := fun o => (grownBy_putObj' X (w.heap.size + 1) o).size
      refine ⟨_, h3, by rw [hR, hR], h1, ?_, (World.putObj_heap_other (by omega)).trans h2, ⟨Nat.le_trans hUs (Nat.le_trans hXs (hsz2 _)), fun k k1 k2 k3 => ?_, fun k hk' => ⟨Nat.lt_of_lt_of_le (hk.row k hk').1 (hsz2 _), ?_⟩⟩, fun k hk' => ?_⟩
      · rw [World.putObj_heap_same (Array.getElem?_eq_some_iff.1 h1).1, hR, hR]
      · rw [World.putObj_heap_other (by omega), hk.block k (by omega) (by omega) k3, hUb k k2 (by omega)]
      · rcases (hk.row k hk').2 with q | q
        · exact .inl q
        · exact .inr (by omega)
      · rcases (hk.row k hk').2 with q | q
        · exact hRn k q
        · omega
    intro e a3 X hp
    cases e with
    | normal =>
      obtain ⟨R', hk, hi3⟩ := hp
      obtain ⟨X', hr, hX, h1, h2, h3, h4, h5⟩ := fin none X R' hk
      exact ⟨_, X', hr, R', h4, .inl ⟨rfl, ⟨by rw [hX]; exact (hI R').putObj _ hi3 (by omega) h1 rfl, h2, h3⟩, h5⟩⟩
    | ret =>
      obtain ⟨R', hk, hi3⟩ := hp
      obtain ⟨X', hr, hX, h1, h2, h3, h4, h5⟩ := fin (some .ret) X R' hk
      exact ⟨_, X', hr, R', h4, .inr ⟨rfl, .ret, by rw [hX]; exact (hIx _ R').putObj _ hi3 (by omega) h1 rfl, h2, h3⟩⟩
    | exit id =>
      obtain ⟨R', hk, hi3⟩ := hp
      obtain ⟨X', hr, hX, h1, h2, h3, h4, h5⟩ := fin (some (.exit id)) X R' hk
      exact ⟨_, X', hr, R', h4, .inr ⟨rfl, .exit id, by rw [hX]; exact (hIx _ R').putObj _ hi3 (by omega) h1 rfl, h2, h3⟩⟩
    | goto t =>
      obtain ⟨R', hk, hi3⟩ := hp
      obtain ⟨X', hr, hX, h1, h2, h3, h4, h5⟩ := fin (some (.goto t)) X R' hk
      exact ⟨_, X', hr, R', h4, .inr ⟨rfl, .goto t, by rw [hX]; exact (hIx _ R').putObj _ hi3 (by omega) h1 rfl, h2, h3⟩⟩
    | panic ch => exact hp.elim
    | outgrown => exact hp.elim
  · rintro e W2 ⟨⟨v, rfl⟩, R2, (⟨⟨hi, hl, hd⟩, -⟩ | ⟨pre, hpre, c, hi, hl, hd⟩)⟩
    · have he := run_endLoop (P := P) hl (by rw [hR]; simp)
      have hlt : w.heap.size + 2 ≤ W2.heap.size := (Array.getElem?_eq_some_iff.1 hl).1
      have hsz2 : ∀ o, W2.heap.size ≤ (W2.putObj (w.heap.size + 1) o).heap.size := fun o => (grownBy_putObj' W2 (w.heap.size + 1) o).size
      exact ⟨_, _, he, by rw [hR]; exact hdone R2 _ (Nat.le_trans hlt (hsz2 _)) ((hI R2).putObj _ hi (by omega) hl rfl) ((World.putObj_heap_other (by omega)).trans hd)⟩
    · have he := run_endLoop (P := P) hl (by rw [hR]; simp)
      have hlt : w.heap.size + 2 ≤ W2.heap.size := (Array.getElem?_eq_some_iff.1 hl).1
      have hsz2 : ∀ o, W2.heap.size ≤ (W2.putObj (w.heap.size + 1) o).heap.size := fun o => (grownBy_putObj' W2 (w.heap.size + 1) o).size
      exact ⟨_, _, he, by rw [hR]; exact hstop c R2 pre _ (Nat.le_trans hlt (hsz2 _)) hpre ((hIx c R2).putObj _ hi (by omega) hl rfl) ((World.putObj_heap_other (by omega)).trans hd)⟩

end Go.Proofs.Ytbajjbgeohbdjaa.Rng
