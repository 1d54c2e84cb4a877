/- A range over a function: one contract for iterators, and one law for the loop, that serve a loop within an iterator too. -/
import Derived.RangeFuncNested
import Derived.RangeFuncBound
import Derived.RangeFuncLeaves
namespace Go.Proofs.Ytbajjbgeohbdjaa.Rng
open Go.RowKit

/-- Blocks from B on and below N lie as they lay. -/
def Stays (B N : Nat) (W W' : World) : Prop := W.heap.size ≤ W'.heap.size ∧ ∀ k, B ≤ k → k < N → W'.heap[k]? = W.heap[k]?
theorem Stays.refl (B N : Nat) (W : World) : Stays B N W W := ⟨Nat.le_refl _, fun _ _ _ => rfl⟩
theorem Stays.trans {B N : Nat} {X Y Z : World} (h : Stays B N X Y) (k : Stays B N Y Z) : Stays B N X Z := ⟨Nat.le_trans h.1 k.1, fun i h1 h2 => (k.2 i h1 h2).trans (h.2 i h1 h2)⟩
theorem Stays.mono {B N B' N' : Nat} {X Y : World} (h : Stays B N X Y) (hB : B ≤ B') (hN : N' ≤ N) : Stays B' N' X Y := ⟨h.1, fun i h1 h2 => h.2 i (by omega) (by omega)⟩
theorem Stays.grown {B N : Nat} {X Y : World} {row : Option Nat} (hg : X.grownBy Y row) (hN : N ≤ X.heap.size) (hr : ∀ k, row = some k → k < B ∨ N ≤ k) : Stays B N X Y :=
  ⟨hg.size, fun k h1 h2 => hg.block k (by omega) (fun e => by have := hr k e.symm; omega)⟩
theorem Stays.alloc {B N : Nat} (X : World) (o : Obj) (hN : N ≤ X.heap.size) : Stays B N X (X.alloc o) := Stays.grown (World.grownBy_alloc X o none) hN (fun k e => by cases e)
theorem Stays.set {B N : Nat} (X : World) (b : Nat) (v : Value) (h : b < B) : Stays B N X (X.setCell ⟨b, 0, none⟩ v) :=
  ⟨(grownBy_setCell' X b v).size, fun k h1 _ => Below.heap_setCell _ _ _ k (fun e => by simp at e; omega)⟩
theorem Stays.below {B N : Nat} {X Y : World} (h : Below N X Y) : Stays B N X Y := ⟨h.size, fun k _ h2 => h.block k h2⟩

/-- An iterator's word. The elements xs come one by one; between two rounds it reads what 'rd' says; a round keeps the blocks that the iterator has laid itself, before the first round: from the call's start up to N. -/
def Itr {α : Type} (P : Program) (g : Nat) (lb : Array Value) (encs : α → Array Value) (xs : List α) (rd : World → Prop) : Prop :=
  ∀ (l : Nat) (J Jx : Nat → List α → World → Prop) (W : World), (∀ N, OwnFrom W.heap.size (J N)) → (∀ N, OwnFrom W.heap.size (Jx N)) → (∀ N pre W1, J N pre W1 → rd W1) →
    (∀ m N pre x W1, W.heap.size ≤ N → N ≤ W1.heap.size → J N pre W1 → pre ++ [x] <+: xs → YieldAt Fence.wide m P l (encs x) W1 fun e W' =>
      Stays W.heap.size N W1 W' ∧ ((e = .returned (.bool true) ∧ J N (pre ++ [x]) W') ∨ (e = .returned (.bool false) ∧ Jx N (pre ++ [x]) W'))) →
    (∀ N, J N [] W) → Calls P g (#[.func (.yield l) #[] #[]] ++ lb) W fun e W' => (∃ v, e = .returned v) ∧ ∃ N, W.heap.size ≤ N ∧ (J N xs W' ∨ ∃ pre, pre <+: xs ∧ Jx N pre W')

/-- How a round's body may be left. -/
def post {α : Type} (B N : Nat) (I : List α → World → Prop) (Ix : Code → List α → World → Prop) (xs : List α) (W : World) : Exit → Act → World → Prop
  | .normal, _, W' => Stays B N W W' ∧ I xs W'
  | .ret, _, W' => Stays B N W W' ∧ Ix .ret xs W'
  | .exit id, _, W' => Stays B N W W' ∧ Ix (.exit id) xs W'
  | .goto t, _, W' => Stays B N W W' ∧ Ix (.goto t) xs W'
  | .panic _, _, _ => False
  | .outgrown, _, _ => False

/-- A turn of a block below B is none at or beyond it. -/
theorem stays_putObj {B N l : Nat} (W : World) (o : Obj) (h : l < B) : Stays B N W (W.putObj l o) :=
  ⟨(grownBy_putObj' W l o).size, fun k h1 _ => World.putObj_heap_other (by omega)⟩

/-- The loop 'for .. := range g { .. }', outermost in its function. -/
theorem range {α : Type} {n : Nat} {P : Program} {g : Operand} {ps : Array Tmp} {assign body : Code} {Q : Exit → Act → World → Prop} {a : Act} {w : World}
    {gf : Nat} {lb : Array Value} (hg : a.eval g = .func (.func gf) #[] lb) (eg : ∀ args w, (callFunc gf args).run P w = .ok (.enter gf args) w)
    {encs : α → Array Value} {xs : List α} {rd : World → Prop} (hit : Itr P gf lb encs xs rd) (hps : ∀ x, (encs x).size = ps.size)
    (I : Nat → List α → World → Prop) (Ix : Nat → Code → List α → World → Prop) (hI : ∀ N, OwnFrom w.heap.size (I N)) (hIx : ∀ N c, OwnFrom w.heap.size (Ix N c)) (hrd : ∀ N pre W, I N pre W → rd W) (h0 : ∀ N, I N [] w) (a₁ : α → Act)
    (hassign : ∀ (m l : Nat) (x : α) (W : World) (K : Act → World → Prop), K (a₁ x) W →
      assign.wpIn (Fence.wide.inRound l) m P (Exit.then K (fun _ _ _ => False)) { tmps := (ps.zip (encs x)).foldl (fun t (p, v) => t.setIfInBounds p v) a.tmps, defers := [] } W)
    (hbody : ∀ (m l N : Nat) (pre : List α) (x : α) (W : World), I N pre W → pre ++ [x] <+: xs → w.heap.size + 2 ≤ N → N ≤ W.heap.size → body.wpIn (Fence.wide.inRound l) m P (post w.heap.size N (I N) (Ix N) (pre ++ [x]) W) (a₁ x) W)
    (hdone : ∀ (N : Nat) (W : World), w.heap.size ≤ N → I N xs W → W.heap[w.heap.size]? = some (.deferred (some [])) → Q .normal { a with defers := { target := .collected w.heap.size, args := #[] } :: a.defers } W)
    (hstop : ∀ (N : Nat) (c : Code) (pre : List α) (W : World), w.heap.size ≤ N → pre <+: xs → Ix N c pre W → W.heap[w.heap.size]? = some (.deferred (some [])) → c.wpIn Fence.wide n P Q { a with defers := { target := .collected w.heap.size, args := #[] } :: a.defers } W) :
    (Code.rangeFunc g ps assign body).wpIn Fence.wide n P Q a w := by
  have hnd : Fence.wide.depth.isSome = true → 1 ≤ n := fun h => by simp [Fence.wide] at h
  refine wpIn_rangeFunc fun fn hfn => ?_
  let R : LoopState → Option Code → Loop := fun st pe => { state := st, pending := pe, fn, tmps := a.tmps, params := ps, assign, body, defers := w.heap.size }
  have hR : ∀ st pe, R st pe = { state := st, pending := pe, fn, tmps := a.tmps, params := ps, assign, body, defers := w.heap.size } := fun _ _ => rfl
  clear_value R
  obtain ⟨V, hV⟩ : ∃ V, V = (w.alloc (.deferred (some []))).alloc (.loop (R .ready none)) := ⟨_, rfl⟩
  have hVs : V.heap.size = w.heap.size + 2 := by rw [hV]; simp
  have hVl : V.heap[w.heap.size + 1]? = some (.loop (R .ready none)) := by
    have := World.alloc_heap_new (w.alloc (.deferred (some []))) (.loop (R .ready none)); rw [World.size_alloc] at this; rw [hV]; exact this
  have hVd : V.heap[w.heap.size]? = some (.deferred (some [])) := by
    rw [hV]; exact (Below.heap_alloc _ _ _ (by simp)).trans (World.alloc_heap_new w _)
  have h0V : ∀ N, I N [] V := fun N => by rw [hV]; exact (hI N).alloc _ ((hI N).alloc _ (h0 N))
  refine ⟨w.heap.size + 1, [{ target := .collected w.heap.size, args := #[] }], V, { target := .fn (.func gf) lb, args := #[.func (.yield (w.heap.size + 1)) #[] #[]] }, V, gf,
    #[.func (.yield (w.heap.size + 1)) #[] #[]] ++ lb, V, ?_, ?_, fun _ _ => trivial, ?_, hnd, ?_⟩
  · rw [hV, hR]; exact run_enterLoop_outer _ _ _ _ _
  · simp only [resolve, hg]; simp [go_sem]
  · simp [invoke, go_sem, eg]
  refine callsIn_wide.2 ?_
  have back : ∀ {A : World} {row : Option Nat}, (∀ r, row = some r → V.heap.size ≤ r ∧ ∃ o : Obj, A.heap[r]? = some o ∧ o.isCells = false) → (∀ r, row = some r → w.heap.size ≤ r ∧ ∃ o : Obj, A.heap[r]? = some o ∧ o.isCells = false) :=
    fun hr r e => ⟨by have := (hr r e).1; omega, (hr r e).2⟩
  have stay : ∀ {A B : World} {row : Option Nat} {k : Nat} {o : Obj}, k < V.heap.size → A.grownBy B row → (∀ r, row = some r → V.heap.size ≤ r ∧ ∃ o : Obj, A.heap[r]? = some o ∧ o.isCells = false) → A.heap[k]? = some o → B.heap[k]? = some o :=
    fun hk hg' hr h => (hg'.block _ (Array.getElem?_eq_some_iff.1 h).1 (fun e => by have := (hr _ e.symm).1; omega)).trans h
  refine Calls.mono (hit (w.heap.size + 1)
    (fun N pre W => I N pre W ∧ W.heap[w.heap.size + 1]? = some (.loop (R .ready none)) ∧ W.heap[w.heap.size]? = some (.deferred (some [])))
    (fun N pre W => ∃ c, Ix N c pre W ∧ W.heap[w.heap.size + 1]? = some (.loop (R .done (some c))) ∧ W.heap[w.heap.size]? = some (.deferred (some [])))
    V ?_ ?_ (fun N pre W1 h => hrd N pre W1 h.1) ?_ (fun N => ⟨h0V N, hVl, hVd⟩)) ?_
  · exact fun N s A B row hs hg' hr => ⟨hI N s A B row hs.1 hg' (back hr), stay (by omega) hg' hr hs.2.1, stay (by omega) hg' hr hs.2.2⟩
  · rintro N s A B row ⟨c, hc, h2, h3⟩ hg' hr
    exact ⟨c, hIx N c s A B row hc hg' (back hr), stay (by omega) hg' hr h2, stay (by omega) hg' hr h3⟩
  · rintro m N pre x W hN1 hN2 ⟨hi, hl, hd⟩ hpre
    have hlt : w.heap.size + 1 < W.heap.size := (Array.getElem?_eq_some_iff.1 hl).1
    have hy := run_yield (P := P) (args := encs x) hl (by rw [hR]; exact hps x)
    have hb := run_beginRound (P := P) hl (by rw [hR])
    obtain ⟨U, hU⟩ : ∃ U, U = W.putObj (w.heap.size + 1) (.loop { R .ready none with state := .busy }) := ⟨_, rfl⟩
    rw [← hU] at hb
    have hUl : U.heap[w.heap.size + 1]? = some (.loop (R .busy none)) := by rw [hU, World.putObj_heap_same hlt, hR, hR]
    have hUd : U.heap[w.heap.size]? = some (.deferred (some [])) := by rw [hU]; exact (World.putObj_heap_other (by omega)).trans hd
    have hUi : I N pre U := by rw [hU]; exact (hI N).putObj _ hi (by omega) hl rfl
    have hUk : Stays V.heap.size N W U := by rw [hU]; exact stays_putObj _ _ (by omega)
    have hUs : N ≤ U.heap.size := Nat.le_trans hN2 hUk.1
    rw [hR] at hy
    refine ⟨fn, _, assign, body, hy, roundIn_of_wpIn hfn (hassign _ _ x W _ ⟨U, hb, wpIn_mono (hbody _ _ N pre x U hUi hpre (by omega) hUs) ?_⟩)⟩
    have fin : ∀ (j : Option Code) (X : World), Stays w.heap.size N U X → ∃ X', (Instr.endRound (w.heap.size + 1) j).run P X = .ok (.bool j.isNone) X' ∧ X' = X.putObj (w.heap.size + 1) (.loop (R (if j.isNone then .ready else .done) j)) ∧
        X.heap[w.heap.size + 1]? = some (.loop (R .busy none)) ∧ X'.heap[w.heap.size + 1]? = some (.loop (R (if j.isNone then .ready else .done) j)) ∧ X'.heap[w.heap.size]? = some (.deferred (some [])) ∧ Stays V.heap.size N W X' := by
      intro j X hk
      have h1 := (hk.2 (w.heap.size + 1) (by omega) (by omega)).trans hUl
      have h2 := (hk.2 w.heap.size (Nat.le_refl _) (by omega)).trans hUd
      have h3 := run_endRound (P := P) j h1
      refine ⟨_, h3, by rw [hR, hR], h1, ?_, (World.putObj_heap_other (by omega)).trans h2, (hUk.trans (hk.mono (by omega) (Nat.le_refl _))).trans (stays_putObj _ _ (by omega))⟩
      rw [World.putObj_heap_same (Array.getElem?_eq_some_iff.1 h1).1, hR, hR]
    intro e a3 X hp
    cases e with
    | normal =>
      obtain ⟨hk, hi3⟩ := hp
      obtain ⟨X', hr, hX, h1, h2, h3, h4⟩ := fin none X hk
      exact ⟨_, X', hr, h4, .inl ⟨rfl, by rw [hX]; exact (hI N).putObj _ hi3 (by omega) h1 rfl, h2, h3⟩⟩
    | ret =>
      obtain ⟨hk, hi3⟩ := hp
      obtain ⟨X', hr, hX, h1, h2, h3, h4⟩ := fin (some .ret) X hk
      exact ⟨_, X', hr, h4, .inr ⟨rfl, .ret, by rw [hX]; exact (hIx N _).putObj _ hi3 (by omega) h1 rfl, h2, h3⟩⟩
    | exit id =>
      obtain ⟨hk, hi3⟩ := hp
      obtain ⟨X', hr, hX, h1, h2, h3, h4⟩ := fin (some (.exit id)) X hk
      exact ⟨_, X', hr, h4, .inr ⟨rfl, .exit id, by rw [hX]; exact (hIx N _).putObj _ hi3 (by omega) h1 rfl, h2, h3⟩⟩
    | goto t =>
      obtain ⟨hk, hi3⟩ := hp
      obtain ⟨X', hr, hX, h1, h2, h3, h4⟩ := fin (some (.goto t)) X hk
      exact ⟨_, X', hr, h4, .inr ⟨rfl, .goto t, by rw [hX]; exact (hIx N _).putObj _ hi3 (by omega) h1 rfl, h2, h3⟩⟩
    | panic ch => exact hp.elim
    | outgrown => exact hp.elim
  · rintro e W2 ⟨⟨v, rfl⟩, N, hN, (⟨hi, hl, hd⟩ | ⟨pre, hpre, c, hi, hl, hd⟩)⟩
    · have he := run_endLoop (P := P) hl (by rw [hR]; simp)
      exact ⟨_, _, he, by rw [hR]; exact hdone N _ (by omega) ((hI N).putObj _ hi (by omega) hl rfl) ((World.putObj_heap_other (by omega)).trans hd)⟩
    · have he := run_endLoop (P := P) hl (by rw [hR]; simp)
      exact ⟨_, _, he, by rw [hR]; exact hstop N c pre _ (by omega) hpre ((hIx N c).putObj _ hi (by omega) hl rfl) ((World.putObj_heap_other (by omega)).trans hd)⟩

end Go.Proofs.Ytbajjbgeohbdjaa.Rng
