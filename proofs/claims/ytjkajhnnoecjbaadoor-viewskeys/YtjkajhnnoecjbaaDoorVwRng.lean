/- A range over a function whose iterator reads, between rounds, what it has laid between rounds: a round keeps every block but those of a kind that the body alone writes. -/
import Derived.Test.YtjkajhnnoecjbaaDoorRng
namespace Go.Proofs.YtjkajhnnoecjbaaDoor.Rng
open Go.RowKit

/-- Blocks from B on lie as they lay, but for those of the kind KO. -/
def KeepsBut (B : Nat) (KO : Obj → Prop) (W W' : World) : Prop := W.heap.size ≤ W'.heap.size ∧ ∀ k, B ≤ k → k < W.heap.size → (∀ o, W.heap[k]? = some o → ¬ KO o) → W'.heap[k]? = W.heap[k]?

/-- An iterator's word; T: the kind of what it lays itself. -/
def Itr3 {α : Type} (P : Program) (g : Nat) (lb : Array Value) (encs : α → Array Value) (xs : List α) (rd : World → Prop) (T : TypeId) : Prop :=
  ∀ (l : Nat) (J Jx : List α → World → Prop) (KO : Obj → Prop) (W : World), OwnFrom W.heap.size J → OwnFrom W.heap.size Jx → (∀ cs f, ¬ KO (.cells cs T f)) → (∀ pre W1, J pre W1 → rd W1) →
    (∀ m pre x W1, W.heap.size ≤ W1.heap.size → J pre W1 → pre ++ [x] <+: xs → YieldAt Fence.wide m P l (encs x) W1 fun e W' =>
      KeepsBut W.heap.size KO W1 W' ∧ ((e = .returned (.bool true) ∧ J (pre ++ [x]) W') ∨ (e = .returned (.bool false) ∧ Jx (pre ++ [x]) W'))) →
    J [] W → Calls P g (#[.func (.yield l) #[] #[]] ++ lb) W fun e W' => (∃ v, e = .returned v) ∧ (J xs W' ∨ ∃ pre, pre <+: xs ∧ Jx pre W')

/-- How a round's body may be left. -/
def post3 {α : Type} (B : Nat) (KO : Obj → Prop) (I : List α → World → Prop) (Ix : Code → List α → World → Prop) (xs : List α) (W : World) : Exit → Act → World → Prop
  | .normal, _, W' => KeepsBut B KO W W' ∧ I xs W'
  | .ret, _, W' => KeepsBut B KO W W' ∧ Ix .ret xs W'
  | .exit id, _, W' => KeepsBut B KO W W' ∧ Ix (.exit id) xs W'
  | .goto t, _, W' => KeepsBut B KO W W' ∧ Ix (.goto t) xs W'
  | .panic _, _, _ => False
  | .outgrown, _, _ => False

/-- The loop 'for .. := range g { .. }', outermost in its function; its variables may be laid anew in each round. -/
theorem range4 {α : Type} {n : Nat} {P : Program} {g : Operand} {ps : Array Tmp} {assign body : Code} {Q : Exit → Act → World → Prop} {a : Act} {w : World}
    {gf : Nat} {lb : Array Value} (hg : a.eval g = .func (.func gf) #[] lb) (eg : ∀ args w, (callFunc gf args).run P w = .ok (.enter gf args) w)
    {encs : α → Array Value} {xs : List α} {rd : World → Prop} {T : TypeId} (hit : Itr3 P gf lb encs xs rd T) (hps : ∀ x, (encs x).size = ps.size)
    (I : List α → World → Prop) (Ix : Code → List α → World → Prop) (KO : Obj → Prop) (hI : OwnFrom w.heap.size I) (hIx : ∀ c, OwnFrom w.heap.size (Ix c)) (hKc : ∀ o, KO o → o.isCells = true) (hKT : ∀ cs f, ¬ KO (.cells cs T f)) (hrd : ∀ pre W, I pre W → rd W) (h0 : I [] w) (a₁ : α → World → Act) (w₁ : α → World → World) (hw₁ : ∀ (x : α) (W : World), W.grownBy (w₁ x W) none)
    (hassign : ∀ (m l : Nat) (x : α) (W : World) (K : Act → World → Prop), K (a₁ x W) (w₁ x W) →
      assign.wpIn (Fence.wide.inRound l) m P (Exit.then K (fun _ _ _ => False)) { tmps := (ps.zip (encs x)).foldl (fun t (p, v) => t.setIfInBounds p v) a.tmps, defers := [] } W)
    (hbody : ∀ (m l : Nat) (pre : List α) (x : α) (W U : World), I pre U → (w₁ x W).grownBy U (some (w.heap.size + 1)) → pre ++ [x] <+: xs → w.heap.size + 2 ≤ W.heap.size → body.wpIn (Fence.wide.inRound l) m P (post3 w.heap.size KO I Ix (pre ++ [x]) U) (a₁ x W) U)
    (hdone : ∀ (W : World), w.heap.size + 2 ≤ W.heap.size → I xs W → W.heap[w.heap.size]? = some (.deferred (some [])) → Q .normal { a with defers := { target := .collected w.heap.size, args := #[] } :: a.defers } W)
    (hstop : ∀ (c : Code) (pre : List α) (W : World), w.heap.size + 2 ≤ W.heap.size → pre <+: xs → Ix c pre W → W.heap[w.heap.size]? = some (.deferred (some [])) → c.wpIn Fence.wide n P Q { a with defers := { target := .collected w.heap.size, args := #[] } :: a.defers } W) :
    (Code.rangeFunc g ps assign body).wpIn Fence.wide n P Q a w := by
  have hnd : Fence.wide.depth.isSome = true → 1 ≤ n := fun h => by simp [Fence.wide] at h
  refine wpIn_rangeFunc fun fn hfn => ?_
  let R : LoopState → Option Code → Loop := fun st pe => { state := st, pending := pe, fn, tmps := a.tmps, params := ps, assign, body, defers := w.heap.size }
  have hR : ∀ st pe, R st pe = { state := st, pending := pe, fn, tmps := a.tmps, params := ps, assign, body, defers := w.heap.size } := fun _ _ => rfl
  clear_value R
  obtain ⟨V, hV⟩ : ∃ V, V = (w.alloc (.deferred (some []))).alloc (.loop (R .ready none)) := ⟨_, rfl⟩
  have hVs : V.heap.size = w.heap.size + 2 := by rw [hV]; simp
  have hVl : V.heap[w.heap.size + 1]? = some (.loop (R .ready none)) := by
    have := World.alloc_heap_new (w.alloc (.deferred (some []))) (.loop (R .ready none)); rw [World.size_alloc] at this; rw [hV]; exact this
  have hVd : V.heap[w.heap.size]? = some (.deferred (some [])) := by
    rw [hV]; exact (Below.heap_alloc _ _ _ (by simp)).trans (World.alloc_heap_new w _)
  have h0V : I [] V := by rw [hV]; exact hI.alloc _ (hI.alloc _ h0)
  refine ⟨w.heap.size + 1, [{ target := .collected w.heap.size, args := #[] }], V, { target := .fn (.func gf) lb, args := #[.func (.yield (w.heap.size + 1)) #[] #[]] }, V, gf,
    #[.func (.yield (w.heap.size + 1)) #[] #[]] ++ lb, V, ?_, ?_, fun _ _ => trivial, ?_, hnd, ?_⟩
  · rw [hV, hR]; exact run_enterLoop_outer _ _ _ _ _
  · simp only [resolve, hg]; simp [go_sem]
  · simp [invoke, go_sem, eg]
  refine callsIn_wide.2 ?_
  have back : ∀ {A : World} {row : Option Nat}, (∀ r, row = some r → V.heap.size ≤ r ∧ ∃ o : Obj, A.heap[r]? = some o ∧ o.isCells = false) → (∀ r, row = some r → w.heap.size ≤ r ∧ ∃ o : Obj, A.heap[r]? = some o ∧ o.isCells = false) :=
    fun hr r e => ⟨by have := (hr r e).1; omega, (hr r e).2⟩
  have stay : ∀ {A B : World} {row : Option Nat} {k : Nat} {o : Obj}, k < V.heap.size → A.grownBy B row → (∀ r, row = some r → V.heap.size ≤ r ∧ ∃ o : Obj, A.heap[r]? = some o ∧ o.isCells = false) → A.heap[k]? = some o → B.heap[k]? = some o :=
    fun hk hg' hr h => (hg'.block _ (Array.getElem?_eq_some_iff.1 h).1 (fun e => by have := (hr _ e.symm).1; omega)).trans h
  refine Calls.mono (hit (w.heap.size + 1)
    (fun pre W => I pre W ∧ W.heap[w.heap.size + 1]? = some (.loop (R .ready none)) ∧ W.heap[w.heap.size]? = some (.deferred (some [])))
    (fun pre W => ∃ c, Ix c pre W ∧ W.heap[w.heap.size + 1]? = some (.loop (R .done (some c))) ∧ W.heap[w.heap.size]? = some (.deferred (some [])))
    KO V ?_ ?_ hKT (fun pre W1 h => hrd pre W1 h.1) ?_ ⟨h0V, hVl, hVd⟩) ?_
  · exact fun s A B row hs hg' hr => ⟨hI s A B row hs.1 hg' (back hr), stay (by omega) hg' hr hs.2.1, stay (by omega) hg' hr hs.2.2⟩
  · rintro s A B row ⟨c, hc, h2, h3⟩ hg' hr
    exact ⟨c, hIx c s A B row hc hg' (back hr), stay (by omega) hg' hr h2, stay (by omega) hg' hr h3⟩
  · rintro m pre x W hN1 ⟨hi, hl, hd⟩ hpre
    have hlt : w.heap.size + 1 < W.heap.size := (Array.getElem?_eq_some_iff.1 hl).1
    have hy := run_yield (P := P) (args := encs x) hl (by rw [hR]; exact hps x)
    have hg1 := hw₁ x W
    obtain ⟨W1, hW1⟩ : ∃ W1, W1 = w₁ x W := ⟨_, rfl⟩
    rw [← hW1] at hg1
    have hs1 : W.heap.size ≤ W1.heap.size := hg1.size
    have hi1 : I pre W1 := hI pre W W1 none hi hg1 (fun r e => by cases e)
    have hl1 : W1.heap[w.heap.size + 1]? = some (.loop (R .ready none)) := (hg1.block _ hlt (fun e => by cases e)).trans hl
    have hd1 : W1.heap[w.heap.size]? = some (.deferred (some [])) := (hg1.block _ (by omega) (fun e => by cases e)).trans hd
    have hb := run_beginRound (P := P) hl1 (by rw [hR])
    obtain ⟨U, hU⟩ : ∃ U, U = W1.putObj (w.heap.size + 1) (.loop { R .ready none with state := .busy }) := ⟨_, rfl⟩
    rw [← hU] at hb
    have hUl : U.heap[w.heap.size + 1]? = some (.loop (R .busy none)) := by rw [hU, World.putObj_heap_same (by omega), hR, hR]
    have hUd : U.heap[w.heap.size]? = some (.deferred (some [])) := by rw [hU]; exact (World.putObj_heap_other (by omega)).trans hd1
    have hUi : I pre U := by rw [hU]; exact hI.putObj _ hi1 (by omega) hl1 rfl
    have hUg1 : W1.grownBy U (some (w.heap.size + 1)) := by rw [hU]; exact grownBy_putObj' W1 (w.heap.size + 1) _
    have hUb : ∀ k, k < W.heap.size → k ≠ w.heap.size + 1 → U.heap[k]? = W.heap[k]? := fun k h1 h2 => (hUg1.block k (by omega) (fun e => h2 (Option.some.inj e))).trans (hg1.block k h1 (fun e => by cases e))
    have hUn1 : ∀ o, U.heap[w.heap.size + 1]? = some o → ¬ KO o := fun o ho hk => by
      rw [hUl] at ho
      obtain rfl := Option.some.inj ho
      have := hKc _ hk
      simp [Obj.isCells] at this
    have hUn0 : ∀ o, U.heap[w.heap.size]? = some o → ¬ KO o := fun o ho hk => by
      rw [hUd] at ho
      obtain rfl := Option.some.inj ho
      have := hKc _ hk
      simp [Obj.isCells] at this
    have hUs : W.heap.size ≤ U.heap.size := Nat.le_trans hs1 hUg1.size
    rw [hR] at hy
    refine ⟨fn, _, assign, body, hy, roundIn_of_wpIn hfn (hassign _ _ x W _ ⟨U, by rw [← hW1]; exact hb, wpIn_mono (hbody _ _ pre x W U hUi (by rw [← hW1]; exact hUg1) hpre (by omega)) ?_⟩)⟩
    have fin : ∀ (j : Option Code) (X : World), KeepsBut w.heap.size KO U X → ∃ X', (Instr.endRound (w.heap.size + 1) j).run P X = .ok (.bool j.isNone) X' ∧ X' = X.putObj (w.heap.size + 1) (.loop (R (if j.isNone then .ready else .done) j)) ∧
        X.heap[w.heap.size + 1]? = some (.loop (R .busy none)) ∧ X'.heap[w.heap.size + 1]? = some (.loop (R (if j.isNone then .ready else .done) j)) ∧ X'.heap[w.heap.size]? = some (.deferred (some [])) ∧ KeepsBut V.heap.size KO W X' := by
      intro j X hk
      have h1 := (hk.2 (w.heap.size + 1) (by omega) (by omega) hUn1).trans hUl
      have h2 := (hk.2 w.heap.size (Nat.le_refl _) (by omega) hUn0).trans hUd
      have h3 := run_endRound (P := P) j h1
      have hXs := hk.1
      have hsz2 : ∀ o, X.heap.size ≤ (X.putObj (w.heap.size + 1) o).heap.size := fun o => (grownBy_putObj' X (w.heap.size + 1) o).size
      refine ⟨_, h3, by rw [hR, hR], h1, ?_, (World.putObj_heap_other (by omega)).trans h2, ⟨Nat.le_trans hUs (Nat.le_trans hXs (hsz2 _)), fun k k1 k2 k3 => ?_⟩⟩
      · rw [World.putObj_heap_same (Array.getElem?_eq_some_iff.1 h1).1, hR, hR]
      · have e := hUb k k2 (by omega)
        rw [World.putObj_heap_other (by omega), hk.2 k (by omega) (by omega) (by rw [e]; exact k3), e]
    intro e a3 X hp
    cases e with
    | normal =>
      obtain ⟨hk, hi3⟩ := hp
      obtain ⟨X', hr, hX, h1, h2, h3, h4⟩ := fin none X hk
      exact ⟨_, X', hr, h4, .inl ⟨rfl, by rw [hX]; exact hI.putObj _ hi3 (by omega) h1 rfl, h2, h3⟩⟩
    | ret =>
      obtain ⟨hk, hi3⟩ := hp
      obtain ⟨X', hr, hX, h1, h2, h3, h4⟩ := fin (some .ret) X hk
      exact ⟨_, X', hr, h4, .inr ⟨rfl, .ret, by rw [hX]; exact (hIx _).putObj _ hi3 (by omega) h1 rfl, h2, h3⟩⟩
    | exit id =>
      obtain ⟨hk, hi3⟩ := hp
      obtain ⟨X', hr, hX, h1, h2, h3, h4⟩ := fin (some (.exit id)) X hk
      exact ⟨_, X', hr, h4, .inr ⟨rfl, .exit id, by rw [hX]; exact (hIx _).putObj _ hi3 (by omega) h1 rfl, h2, h3⟩⟩
    | goto t =>
      obtain ⟨hk, hi3⟩ := hp
      obtain ⟨X', hr, hX, h1, h2, h3, h4⟩ := fin (some (.goto t)) X hk
      exact ⟨_, X', hr, h4, .inr ⟨rfl, .goto t, by rw [hX]; exact (hIx _).putObj _ hi3 (by omega) h1 rfl, h2, h3⟩⟩
    | panic ch => exact hp.elim
    | outgrown => exact hp.elim
  · rintro e W2 ⟨⟨v, rfl⟩, (⟨hi, hl, hd⟩ | ⟨pre, hpre, c, hi, hl, hd⟩)⟩
    · have he := run_endLoop (P := P) hl (by rw [hR]; simp)
      have hlt : w.heap.size + 2 ≤ W2.heap.size := (Array.getElem?_eq_some_iff.1 hl).1
      have hsz2 : ∀ o, W2.heap.size ≤ (W2.putObj (w.heap.size + 1) o).heap.size := fun o => (grownBy_putObj' W2 (w.heap.size + 1) o).size
      exact ⟨_, _, he, by rw [hR]; exact hdone _ (Nat.le_trans hlt (hsz2 _)) (hI.putObj _ hi (by omega) hl rfl) ((World.putObj_heap_other (by omega)).trans hd)⟩
    · have he := run_endLoop (P := P) hl (by rw [hR]; simp)
      have hlt : w.heap.size + 2 ≤ W2.heap.size := (Array.getElem?_eq_some_iff.1 hl).1
      have hsz2 : ∀ o, W2.heap.size ≤ (W2.putObj (w.heap.size + 1) o).heap.size := fun o => (grownBy_putObj' W2 (w.heap.size + 1) o).size
      exact ⟨_, _, he, by rw [hR]; exact hstop c pre _ (Nat.le_trans hlt (hsz2 _)) hpre ((hIx c).putObj _ hi (by omega) hl rfl) ((World.putObj_heap_other (by omega)).trans hd)⟩

end Go.Proofs.YtjkajhnnoecjbaaDoor.Rng
