/- A range over a function whose iterator has variables of its own: what the loop's body keeps stays, whatever is laid into them. -/
import Derived.Test.YtpfdjnnnemkoiabDoorRng
namespace Go.Proofs.YtpfdjnnnemkoiabDoor.Rng
open Go.RowKit

/-- what is laid into the iterator's own variables changes nothing of it -/
def Kept {α : Type} (b0 : Nat) (J : Nat → List α → World → Prop) : Prop := ∀ N pre W b v, b0 ≤ b → b < N → J N pre W → J N pre (W.setCell ⟨b, 0, none⟩ v)
/-- An iterator's word, as Itr; it may write into blocks that it has laid itself. -/
def Itr2 {α : Type} (P : Program) (g : Nat) (lb : Array Value) (encs : α → Array Value) (xs : List α) (rd : World → Prop) : Prop :=
  ∀ (l : Nat) (J Jx : Nat → List α → World → Prop) (W : World), (∀ N, OwnFrom W.heap.size (J N)) → (∀ N, OwnFrom W.heap.size (Jx N)) → Kept W.heap.size J → (∀ N pre W1, J N pre W1 → rd W1) →
    (∀ m N pre x W1, W.heap.size ≤ N → N ≤ W1.heap.size → J N pre W1 → pre ++ [x] <+: xs → YieldAt Fence.wide m P l (encs x) W1 fun e W' =>
      Stays W.heap.size N W1 W' ∧ ((e = .returned (.bool true) ∧ J N (pre ++ [x]) W') ∨ (e = .returned (.bool false) ∧ Jx N (pre ++ [x]) W'))) →
    (∀ N, J N [] W) → Calls P g (#[.func (.yield l) #[] #[]] ++ lb) W fun e W' => (∃ v, e = .returned v) ∧ ∃ N, W.heap.size ≤ N ∧ (J N xs W' ∨ ∃ pre, pre <+: xs ∧ Jx N pre W')
theorem Itr.two {α : Type} {P : Program} {g : Nat} {lb : Array Value} {encs : α → Array Value} {xs : List α} {rd : World → Prop} (h : Itr P g lb encs xs rd) : Itr2 P g lb encs xs rd :=
  fun l J Jx W h1 h2 _ h3 h4 h5 => h l J Jx W h1 h2 h3 h4 h5

/-- The loop 'for .. := range g { .. }', outermost in its function. -/
theorem range2 {α : Type} {n : Nat} {P : Program} {g : Operand} {ps : Array Tmp} {assign body : Code} {Q : Exit → Act → World → Prop} {a : Act} {w : World}
    {gf : Nat} {lb : Array Value} (hg : a.eval g = .func (.func gf) #[] lb) (eg : ∀ args w, (callFunc gf args).run P w = .ok (.enter gf args) w)
    {encs : α → Array Value} {xs : List α} {rd : World → Prop} (hit : Itr2 P gf lb encs xs rd) (hps : ∀ x, (encs x).size = ps.size)
    (I : Nat → List α → World → Prop) (Ix : Nat → Code → List α → World → Prop) (hI : ∀ N, OwnFrom w.heap.size (I N)) (hIx : ∀ N c, OwnFrom w.heap.size (Ix N c)) (hset : Kept (w.heap.size + 2) I) (hrd : ∀ N pre W, I N pre W → rd W) (h0 : ∀ N, I N [] w) (a₁ : α → Act)
    (hassign : ∀ (m l : Nat) (x : α) (W : World) (K : Act → World → Prop), K (a₁ x) W →
      assign.wpIn (Fence.wide.inRound l) m P (Exit.then K (fun _ _ _ => False)) { tmps := (ps.zip (encs x)).foldl (fun t (p, v) => t.setIfInBounds p v) a.tmps, defers := [] } W)
    (hbody : ∀ (m l N : Nat) (pre : List α) (x : α) (W : World), I N pre W → pre ++ [x] <+: xs → w.heap.size + 2 ≤ N → N ≤ W.heap.size → body.wpIn (Fence.wide.inRound l) m P (post w.heap.size N (I N) (Ix N) (pre ++ [x]) W) (a₁ x) W)
    (hdone : ∀ (N : Nat) (W : World), w.heap.size ≤ N → I N xs W → W.heap[w.heap.size]? = some (.deferred (some [])) → Q .normal { a with defers := { target := .collected w.heap.size, args := #[] } :: a.defers } W)
    (hstop : ∀ (N : Nat) (c : Code) (pre : List α) (W : World), w.heap.size ≤ N → pre <+: xs → Ix N c pre W → W.heap[w.heap.size]? = some (.deferred (some [])) → c.wpIn Fence.wide n P Q { a with defers := { target := .collected w.heap.size, args := #[] } :: a.defers } W) :
    (Code.rangeFunc g ps assign body).wpIn Fence.wide n P Q a w := by
  have hnd : Fence.wide.depth.isSome = true → 1 ≤ n := fun h => by simp [Fence.wide] at h
  refine wpIn_rangeFunc fun fn hfn => ?_
  let R : LoopState → Option Code → Loop := fun st pe => { state := st, pending := pe, fn, tmps := a.tmps, params := ps, assign, body, defers := w.heap.size }
  have hR : ∀ st pe, R st pe = { state := st, pending := pe, fn, tmps := a.tmps, params := ps, assign, body, defers := w.heap.size } := fun _ _ => rfl
  clear_value R
  obtain ⟨V, hV⟩ : ∃ V, V = (w.alloc (.deferred (some []))).alloc (.loop (R .ready none)) := ⟨_, rfl⟩
  have hVs : V.heap.size = w.heap.size + 2 := by rw [hV]; simp
  have hVl : V.heap[w.heap.size + 1]? = some (.loop (R .ready none)) := by
    have := World.alloc_heap_new (w.alloc (.deferred (some []))) (.loop (R .ready none)); rw [World.size_alloc] at this; rw [hV]; exact this
  have hVd : V.heap[w.heap.size]? = some (.deferred (some [])) := by
    rw [hV]; exact (Below.heap_alloc _ _ _ (by simp)).trans (World.alloc_heap_new w _)
  have h0V : ∀ N, I N [] V := fun N => by rw [hV]; exact (hI N).alloc _ ((hI N).alloc _ (h0 N))
  refine ⟨w.heap.size + 1, [{ target := .collected w.heap.size, args := #[] }], V, { target := .fn (.func gf) lb, args := #[.func (.yield (w.heap.size + 1)) #[] #[]] }, V, gf,
    #[.func (.yield (w.heap.size + 1)) #[] #[]] ++ lb, V, ?_, ?_, fun _ _ => trivial, ?_, hnd, ?_⟩
  · rw [hV, hR]; exact run_enterLoop_outer _ _ _ _ _
  · simp only [resolve, hg]; simp [go_sem]
  · simp [invoke, go_sem, eg]
  refine callsIn_wide.2 ?_
  have back : ∀ {A : World} {row : Option Nat}, (∀ r, row = some r → V.heap.size ≤ r ∧ ∃ o : Obj, A.heap[r]? = some o ∧ o.isCells = false) → (∀ r, row = some r → w.heap.size ≤ r ∧ ∃ o : Obj, A.heap[r]? = some o ∧ o.isCells = false) :=
    fun hr r e => ⟨by have := (hr r e).1; omega, (hr r e).2⟩
  have stay : ∀ {A B : World} {row : Option Nat} {k : Nat} {o : Obj}, k < V.heap.size → A.grownBy B row → (∀ r, row = some r → V.heap.size ≤ r ∧ ∃ o : Obj, A.heap[r]? = some o ∧ o.isCells = false) → A.heap[k]? = some o → B.heap[k]? = some o :=
    fun hk hg' hr h => (hg'.block _ (Array.getElem?_eq_some_iff.1 h).1 (fun e => by have := (hr _ e.symm).1; omega)).trans h
  refine Calls.mono (hit (w.heap.size + 1)
    (fun N pre W => I N pre W ∧ W.heap[w.heap.size + 1]? = some (.loop (R .ready none)) ∧ W.heap[w.heap.size]? = some (.deferred (some [])))
    (fun N pre W => ∃ c, Ix N c pre W ∧ W.heap[w.heap.size + 1]? = some (.loop (R .done (some c))) ∧ W.heap[w.heap.size]? = some (.deferred (some [])))
    V ?_ ?_ (fun N pre W1 b v hb1 hb2 h => ⟨hset N pre W1 b v (by omega) hb2 h.1, (Below.heap_setCell _ _ _ _ (by simp; omega)).trans h.2.1, (Below.heap_setCell _ _ _ _ (by simp; omega)).trans h.2.2⟩) (fun N pre W1 h => hrd N pre W1 h.1) ?_ (fun N => ⟨h0V N, hVl, hVd⟩)) ?_
  · exact fun N s A B row hs hg' hr => ⟨hI N s A B row hs.1 hg' (back hr), stay (by omega) hg' hr hs.2.1, stay (by omega) hg' hr hs.2.2⟩
  · rintro N s A B row ⟨c, hc, h2, h3⟩ hg' hr
    exact ⟨c, hIx N c s A B row hc hg' (back hr), stay (by omega) hg' hr h2, stay (by omega) hg' hr h3⟩
  · rintro m N pre x W hN1 hN2 ⟨hi, hl, hd⟩ hpre
    have hlt : w.heap.size + 1 < W.heap.size := (Array.getElem?_eq_some_iff.1 hl).1
    have hy := run_yield (P := P) (args := encs x) hl (by rw [hR]; exact hps x)
    have hb := run_beginRound (P := P) hl (by rw [hR])
    obtain ⟨U, hU⟩ : ∃ U, U = W.putObj (w.heap.size + 1) (.loop { R .ready none with state := .busy }) := ⟨_, rfl⟩
    rw [← hU] at hb
    have hUl : U.heap[w.heap.size + 1]? = some (.loop (R .busy none)) := by rw [hU, World.putObj_heap_same hlt, hR, hR]
    have hUd : U.heap[w.heap.size]? = some (.deferred (some [])) := by rw [hU]; exact (World.putObj_heap_other (by omega)).trans hd
    have hUi : I N pre U := by rw [hU]; exact (hI N).putObj _ hi (by omega) hl rfl
    have hUk : Stays V.heap.size N W U := by rw [hU]; exact stays_putObj _ _ (by omega)
    have hUs : N ≤ U.heap.size := Nat.le_trans hN2 hUk.1
    rw [hR] at hy
    refine ⟨fn, _, assign, body, hy, roundIn_of_wpIn hfn (hassign _ _ x W _ ⟨U, hb, wpIn_mono (hbody _ _ N pre x U hUi hpre (by omega) hUs) ?_⟩)⟩
    have fin : ∀ (j : Option Code) (X : World), Stays w.heap.size N U X → ∃ X', (Instr.endRound (w.heap.size + 1) j).run P X = .ok (.bool j.isNone) X' ∧ X' = X.putObj (w.heap.size + 1) (.loop (R (if j.isNone then .ready else .done) j)) ∧
        X.heap[w.heap.size + 1]? = some (.loop (R .busy none)) ∧ X'.heap[w.heap.size + 1]? = some (.loop (R (if j.isNone then .ready else .done) j)) ∧ X'.heap[w.heap.size]? = some (.deferred (some [])) ∧ Stays V.heap.size N W X' := by
      intro j X hk
      have h1 := (hk.2 (w.heap.size + 1) (by omega) (by omega)).trans hUl
      have h2 := (hk.2 w.heap.size (Nat.le_refl _) (by omega)).trans hUd
      have h3 := run_endRound (P := P) j h1
      refine ⟨_, h3, by rw [hR, hR], h1, ?_, (World.putObj_heap_other (by omega)).trans h2, (hUk.trans (hk.mono (by omega) (Nat.le_refl _))).trans (stays_putObj _ _ (by omega))⟩
      rw [World.putObj_heap_same (Array.getElem?_eq_some_iff.1 h1).1, hR, hR]
    intro e a3 X hp
    cases e with
    | normal =>
      obtain ⟨hk, hi3⟩ := hp
      obtain ⟨X', hr, hX, h1, h2, h3, h4⟩ := fin none X hk
      exact ⟨_, X', hr, h4, .inl ⟨rfl, by rw [hX]; exact (hI N).putObj _ hi3 (by omega) h1 rfl, h2, h3⟩⟩
    | ret =>
      obtain ⟨hk, hi3⟩ := hp
      obtain ⟨X', hr, hX, h1, h2, h3, h4⟩ := fin (some .ret) X hk
      exact ⟨_, X', hr, h4, .inr ⟨rfl, .ret, by rw [hX]; exact (hIx N _).putObj _ hi3 (by omega) h1 rfl, h2, h3⟩⟩
    | exit id =>
      obtain ⟨hk, hi3⟩ := hp
      obtain ⟨X', hr, hX, h1, h2, h3, h4⟩ := fin (some (.exit id)) X hk
      exact ⟨_, X', hr, h4, .inr ⟨rfl, .exit id, by rw [hX]; exact (hIx N _).putObj _ hi3 (by omega) h1 rfl, h2, h3⟩⟩
    | goto t =>
      obtain ⟨hk, hi3⟩ := hp
      obtain ⟨X', hr, hX, h1, h2, h3, h4⟩ := fin (some (.goto t)) X hk
      exact ⟨_, X', hr, h4, .inr ⟨rfl, .goto t, by rw [hX]; exact (hIx N _).putObj _ hi3 (by omega) h1 rfl, h2, h3⟩⟩
    | panic ch => exact hp.elim
    | outgrown => exact hp.elim
  · rintro e W2 ⟨⟨v, rfl⟩, N, hN, (⟨hi, hl, hd⟩ | ⟨pre, hpre, c, hi, hl, hd⟩)⟩
    · have he := run_endLoop (P := P) hl (by rw [hR]; simp)
      exact ⟨_, _, he, by rw [hR]; exact hdone N _ (by omega) ((hI N).putObj _ hi (by omega) hl rfl) ((World.putObj_heap_other (by omega)).trans hd)⟩
    · have he := run_endLoop (P := P) hl (by rw [hR]; simp)
      exact ⟨_, _, he, by rw [hR]; exact hstop N c pre _ (by omega) hpre ((hIx N c).putObj _ hi (by omega) hl rfl) ((World.putObj_heap_other (by omega)).trans hd)⟩

end Go.Proofs.YtpfdjnnnemkoiabDoor.Rng
