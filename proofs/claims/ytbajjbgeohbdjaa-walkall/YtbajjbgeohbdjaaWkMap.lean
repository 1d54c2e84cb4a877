/- A map from steps to numbers. -/
import Derived.Test.YtbajjbgeohbdjaaWkSmall
import Derived.MapKept
import Derived.DeepKeys4
import Derived.Maps.Keyed
namespace Go.Proofs.Ytbajjbgeohbdjaa.Wk
open Go.RowKit Go.Proofs.Ytbajjbgeohbdjaa.Cu Go.Proofs.Ytbajjbgeohbdjaa.Tr Go.Proofs.Ytbajjbgeohbdjaa.Pm Go.Proofs.Ytbajjbgeohbdjaa.Pt

def sameS (s t : Sp) : Bool := decide (s.path = t.path) && (decide (s.node = t.node) && (decide (s.depth = t.depth) && (s.after == t.after)))
theorem sameS_iff (s t : Sp) : sameS s t = true ↔ s = t := by
  obtain ⟨a, b, c, d⟩ := s
  obtain ⟨a', b', c', d'⟩ := t
  simp [sameS]
theorem sa_inj {s t : Sp} (h : Value.agg (sa s) = .agg (sa t)) : s = t := by
  obtain ⟨a, b, c, d⟩ := s
  obtain ⟨a', b', c', d'⟩ := t
  simp at h
  obtain ⟨h1, h2, h3, h4⟩ := h
  rw [h1, h2, h3, h4]
theorem Try.stepDeep : Try.prog.keyTypeAt 2 tyS = true := by kernel_rfl
theorem Try.stepTiled : Try.prog.tiled 2 tyS = true := by kernel_rfl
theorem Try.stepKey : Try.prog.keyType tyS = true := by kernel_rfl
theorem Try.stepCells : Try.prog.cellsOf tyS = 4 := by kernel_rfl
theorem Try.strCells : Try.prog.cellsOf 9 = 1 := by kernel_rfl
theorem Try.intCells : Try.prog.cellsOf 3 = 1 := by kernel_rfl
theorem Try.boolCells : Try.prog.cellsOf 4 = 1 := by kernel_rfl
theorem law : Maps.Keyed Try.prog tyS := Maps.Keyed.of_law (deep_law (m := 2) (by omega) Try.stepDeep Try.stepTiled (by rw [Try.underlying37]))
/-- a step whose numbers are numbers of the machine -/
structure Ok (s : Sp) : Prop where
  path : s.path.size ≤ maxLen
  node : (Lit.int .i64 s.node).wf = true
  depth : (Lit.int .i64 s.depth).wf = true
set_option maxRecDepth 100000 in
theorem lits (d : Nat) (s : Sp) (h : Ok s) : Try.prog.keyLits (d + 2) tyS (sa s).toList = some [.string s.path.data.toList, .int .i64 s.node, .int .i64 s.depth, .bool s.after] := by
  obtain ⟨a, b, c, e⟩ := s
  obtain ⟨h1, h2, h3⟩ := h
  simp only at h1 h2 h3
  simp [Program.keyLits, Try.underlying37, Try.underlying9, Try.underlying3, Try.underlying4, Try.stepCells, Try.strCells, Try.intCells, Try.boolCells, h1, h2, h3]
theorem step_lit (s : Sp) (h : Ok s) : ∃ l, keyOf Try.prog tyS (.agg (sa s)) = some l := by
  obtain ⟨k, hk⟩ : ∃ k, Try.prog.types.size + 1 = k + 2 := ⟨_, (by kernel_rfl : Try.prog.types.size + 1 = (Try.prog.types.size - 1) + 2)⟩
  have hf : (Value.agg (sa s)).formed Try.prog tyS = true := by simp [Value.formed, Try.underlying37, Try.stepCells]
  have e := lits k s h
  refine ⟨.string (keyBytes [.string s.path.data.toList, .int .i64 s.node, .int .i64 s.depth, .bool s.after]), ?_⟩
  unfold keyOf
  rw [Try.underlying37]
  simp only [Try.stepKey, hf, Bool.and_self, if_true, hk]
  rw [show (Value.agg (sa s)).cells.toList = (sa s).toList from rfl, e]
  rfl
abbrev tyM : TypeId := 63
/-- block b is a map of these steps to these numbers -/
def SMp (w : World) (b : Nat) (l : List (Sp × Int)) : Prop := ∃ es clock, w.heap[b]? = some (.map es clock) ∧ es.toList.map (fun x => (x.key, x.val)) = l.map (fun q => (Value.agg (sa q.1), Value.int .i64 q.2)) ∧ (∀ q ∈ l, Ok q.1) ∧ l.Pairwise (fun p q => p.1 ≠ q.1)
def upd (s : Sp) (v : Int) : List (Sp × Int) → List (Sp × Int)
  | [] => [(s, v)]
  | q :: l => if sameS q.1 s then (s, v) :: l else q :: upd s v l
def look (s : Sp) : List (Sp × Int) → Option Int
  | [] => none
  | q :: l => if sameS q.1 s then some q.2 else look s l
def del (s : Sp) : List (Sp × Int) → List (Sp × Int)
  | [] => []
  | q :: l => if sameS q.1 s then l else q :: del s l
theorem SMp.made (w : World) : SMp (w.alloc (.map #[] 0)) w.heap.size [] := ⟨#[], 0, heap_alloc_new w _, rfl, (fun _ h => by cases h), List.Pairwise.nil⟩
theorem SMp.lt {w : World} {b : Nat} {l : List (Sp × Int)} (h : SMp w b l) : b < w.heap.size := by
  obtain ⟨es, clock, h, _⟩ := h
  exact (Array.getElem?_eq_some_iff.1 h).1
theorem SMp.keep {w w' : World} {b : Nat} {l : List (Sp × Int)} (h : SMp w b l) (e : w'.heap[b]? = w.heap[b]?) : SMp w' b l := by
  obtain ⟨es, clock, h, h2⟩ := h
  exact ⟨es, clock, e.trans h, h2⟩
/-- where a step stands among the entries -/
theorem find_at {s : Sp} : ∀ (es : List MapEntry) (l : List (Sp × Int)), es.map (fun x => (x.key, x.val)) = l.map (fun q => (Value.agg (sa q.1), Value.int .i64 q.2)) →
    ((∀ x ∈ es, x.key ≠ .agg (sa s)) → look s l = none ∧ (∀ v, upd s v l = l ++ [(s, v)]) ∧ del s l = l) ∧
    ∀ j x, es[j]? = some x → x.key = .agg (sa s) → (∀ i y, i < j → es[i]? = some y → y.key ≠ .agg (sa s)) → ∃ v, look s l = some v ∧ x.val = .int .i64 v ∧ (∀ u, upd s u l = l.set j (s, u)) ∧ del s l = l.eraseIdx j := by
  intro es
  induction es with
  | nil =>
    intro l h
    cases l with
    | nil => exact ⟨fun _ => ⟨rfl, fun _ => rfl, rfl⟩, fun j x h => by simp at h⟩
    | cons _ _ => simp at h
  | cons y es ih =>
    intro l h
    cases l with
    | nil => simp at h
    | cons q l =>
      rw [List.map_cons, List.map_cons] at h
      injection h with h1 h2
      have hk : y.key = .agg (sa q.1) := (Prod.ext_iff.1 h1).1
      have hv : y.val = .int .i64 q.2 := (Prod.ext_iff.1 h1).2
      obtain ⟨ih1, ih2⟩ := ih l h2
      refine ⟨fun hn => ?_, fun j x hj hx hb => ?_⟩
      · have hne : sameS q.1 s = false := by
          cases e : sameS q.1 s with
          | false => rfl
          | true => rw [(sameS_iff _ _).1 e] at hk; exact absurd hk (hn y (by simp))
        obtain ⟨a1, a2, a3⟩ := ih1 fun x hx => hn x (by simp [hx])
        refine ⟨by rw [look, hne]; exact a1, fun v => by rw [upd, hne, if_neg (by simp), a2]; rfl, by rw [del, hne, if_neg (by simp), a3]⟩
      · cases j with
        | zero =>
          simp at hj
          subst hj
          rw [hk] at hx
          have e : sameS q.1 s = true := (sameS_iff _ _).2 (sa_inj hx)
          exact ⟨q.2, by rw [look, e]; rfl, hv, fun u => by rw [upd, e]; rfl, by rw [del, e]; rfl⟩
        | succ j =>
          have hne : sameS q.1 s = false := by
            cases e : sameS q.1 s with
            | false => rfl
            | true => rw [(sameS_iff _ _).1 e] at hk; exact absurd hk (hb 0 y (by omega) rfl)
          obtain ⟨v, a1, a2, a3, a4⟩ := ih2 j x (by simpa using hj) hx (fun i z hi hz => hb (i + 1) z (by omega) (by simpa using hz))
          exact ⟨v, by rw [look, hne]; exact a1, a2, fun u => by rw [upd, hne, if_neg (by simp), a3]; rfl, by rw [del, hne, if_neg (by simp), a4]; rfl⟩
theorem map_erase {α β : Type} (f : α → β) : ∀ (l : List α) (j : Nat), (l.eraseIdx j).map f = (l.map f).eraseIdx j
  | [], _ => rfl
  | _ :: _, 0 => rfl
  | x :: l, j + 1 => by rw [List.eraseIdx_cons_succ, List.map_cons, List.map_cons, List.eraseIdx_cons_succ, map_erase f l j]
theorem map_mod {α β : Type} (f : α → β) (g : α → α) (y : β) : ∀ (l : List α) (j : Nat), (∀ x, f (g x) = y) → (l.modify j g).map f = (l.map f).set j y
  | [], j, _ => by cases j <;> simp
  | x :: l, 0, h => by simp [h]
  | x :: l, j + 1, h => by simp [map_mod f g y l j h]
theorem List.set_getElem?_self' {α : Type} : ∀ {l : List α} {j : Nat} {x : α}, l[j]? = some x → l.set j x = l
  | [], j, x, h => by simp at h
  | y :: l, 0, x, h => by simp at h; simp [h]
  | y :: l, j + 1, x, h => by simp at h; simp [List.set_getElem?_self' h]
theorem keys_ok {es : List MapEntry} {l : List (Sp × Int)} (h : es.map (fun x => (x.key, x.val)) = l.map (fun q => (Value.agg (sa q.1), Value.int .i64 q.2))) (hl : ∀ q ∈ l, Ok q.1) : ∀ x ∈ es, ∃ k, keyOf Try.prog tyS x.key = some k := by
  intro x hx
  have : (x.key, x.val) ∈ l.map (fun q => (Value.agg (sa q.1), Value.int .i64 q.2)) := by rw [← h]; exact List.mem_map_of_mem (f := fun x : MapEntry => (x.key, x.val)) hx
  obtain ⟨q, hq, e⟩ := List.mem_map.1 this
  have e1 : x.key = .agg (sa q.1) := (Prod.ext_iff.1 e).1.symm
  rw [e1]
  exact step_lit _ (hl q hq)
theorem apart_at {es : List MapEntry} {l : List (Sp × Int)} (h : es.map (fun x => (x.key, x.val)) = l.map (fun q => (Value.agg (sa q.1), Value.int .i64 q.2))) (hp : l.Pairwise (fun p q => p.1 ≠ q.1)) {s : Sp} {j : Nat} {x : MapEntry} (hj : es[j]? = some x) (hx : x.key = .agg (sa s)) : ∀ i y, i < j → es[i]? = some y → y.key ≠ .agg (sa s) := by
  intro i y hi hy e
  have g : ∀ (k : Nat) (z : MapEntry), es[k]? = some z → ∃ q, l[k]? = some q ∧ z.key = .agg (sa q.1) := fun k z hz => by
    have h1 : (es.map (fun x => (x.key, x.val)))[k]? = some (z.key, z.val) := by rw [List.getElem?_map, hz]; rfl
    rw [h, List.getElem?_map] at h1
    cases hq : l[k]? with
    | none => rw [hq] at h1; simp at h1
    | some q => rw [hq] at h1; exact ⟨q, rfl, (Prod.ext_iff.1 (Option.some.inj h1)).1.symm⟩
  obtain ⟨q1, a1, a2⟩ := g i y hy
  obtain ⟨q2, b1, b2⟩ := g j x hj
  have e1 : q1.1 = s := sa_inj (a2.symm.trans e)
  have e2 : q2.1 = s := sa_inj (b2.symm.trans hx)
  obtain ⟨hil, hie⟩ := List.getElem?_eq_some_iff.1 a1
  obtain ⟨hjl, hje⟩ := List.getElem?_eq_some_iff.1 b1
  have := List.pairwise_iff_getElem.1 hp i j hil hjl hi
  rw [hie, hje, e1, e2] at this
  exact this rfl
theorem SMp.look {w : World} {b : Nat} {l : List (Sp × Int)} (h : SMp w b l) (s : Sp) (hs : Ok s) :
    (Instr.lookup tyM (.map (some b)) (.agg (sa s)) true).run Try.prog w = .ok (.tuple #[.int .i64 ((look s l).getD 0), .bool (look s l).isSome]) w := by
  obtain ⟨es, clock, hb, h2, h3, h4⟩ := h
  obtain ⟨k, hk⟩ := step_lit s hs
  have hc := law.check w es.isEmpty hk
  rcases law.find w hk es.toList (keys_ok h2 h3) with ⟨hf, hn⟩ | ⟨j, x, hf, hj, hx⟩
  · obtain ⟨e, _, _⟩ := (find_at es.toList l h2).1 hn
    rw [e]
    simp [Instr.lookup, run_underlying Try.underlying63, MapKept.run_getObj_map hb, hc, hf, Result.andThen]
  · obtain ⟨v, e, e2, _, _⟩ := (find_at es.toList l h2).2 j x hj hx (apart_at h2 h4 hj hx)
    rw [e]
    simp [Instr.lookup, run_underlying Try.underlying63, MapKept.run_getObj_map hb, hc, hf, e2, Result.andThen]
theorem SMp.del {w : World} {b : Nat} {l : List (Sp × Int)} (h : SMp w b l) (s : Sp) (hs : Ok s) (ty : TypeId) :
    ∃ w', (Builtin.delete_ #[tyM, tyS] ty #[.map (some b), .agg (sa s)]).run Try.prog w = .ok (.tuple #[]) w' ∧ SMp w' b (del s l) ∧ w.grownBy w' (some b) := by
  obtain ⟨es, clock, hb, h2, h3, h4⟩ := h
  obtain ⟨k, hk⟩ := step_lit s hs
  have hc := law.check w es.isEmpty hk
  rcases law.find w hk es.toList (keys_ok h2 h3) with ⟨hf, hn⟩ | ⟨j, x, hf, hj, hx⟩
  · obtain ⟨_, _, e⟩ := (find_at es.toList l h2).1 hn
    rw [e]
    refine ⟨{ w with heap := w.heap.setIfInBounds b (.map es clock) }, ?_, ⟨es, clock, (MapKept.heap_set hb).1, h2, h3, h4⟩, ⟨rfl, rfl, rfl, by simp, fun i _ hi => (MapKept.heap_set hb).2 i (fun e => hi (by rw [e]))⟩⟩
    simp [Builtin.delete_, run_underlying Try.underlying63, MapKept.run_getObj_map hb, hc, hf, MapKept.run_setObj_map _ hb, Result.andThen]
  · obtain ⟨v, _, e2, _, e⟩ := (find_at es.toList l h2).2 j x hj hx (apart_at h2 h4 hj hx)
    rw [e]
    refine ⟨{ w with heap := w.heap.setIfInBounds b (.map (es.eraseIdxIfInBounds j) clock) }, ?_, ⟨_, clock, (MapKept.heap_set hb).1, ?_, fun q hq => h3 q (List.mem_of_mem_eraseIdx hq), h4.sublist (List.eraseIdx_sublist _ _)⟩, ⟨rfl, rfl, rfl, by simp, fun i _ hi => (MapKept.heap_set hb).2 i (fun e => hi (by rw [e]))⟩⟩
    · simp [Builtin.delete_, run_underlying Try.underlying63, MapKept.run_getObj_map hb, hc, hf, MapKept.run_setObj_map _ hb, Result.andThen]
    · rw [map_erase, ← h2, Array.toList_eraseIdxIfInBounds, map_erase]
theorem SMp.upd {w : World} {b : Nat} {l : List (Sp × Int)} (h : SMp w b l) (s : Sp) (hs : Ok s) (v : Int) :
    ∃ w', (Instr.mapUpdate tyM (.map (some b)) (.agg (sa s)) (.int .i64 v)).run Try.prog w = .ok () w' ∧ SMp w' b (upd s v l) ∧ w.grownBy w' (some b) := by
  obtain ⟨es, clock, hb, h2, h3, h4⟩ := h
  obtain ⟨k, hk⟩ := step_lit s hs
  have hc := law.check w false hk
  rcases law.find w hk es.toList (keys_ok h2 h3) with ⟨hf, hn⟩ | ⟨j, x, hf, hj, hx⟩
  · obtain ⟨e0, e, _⟩ := (find_at es.toList l h2).1 hn
    rw [e]
    refine ⟨{ w with heap := w.heap.setIfInBounds b (.map (es.push { key := .agg (sa s), val := .int .i64 v, born := clock }) (clock + 1)) }, ?_, ⟨_, _, (MapKept.heap_set hb).1, by simp [h2], ?_, ?_⟩, ⟨rfl, rfl, rfl, by simp, fun i _ hi => (MapKept.heap_set hb).2 i (fun e => hi (by rw [e]))⟩⟩
    · simp [Instr.mapUpdate, run_underlying Try.underlying63, MapKept.run_getObj_map hb, hc, hf, MapKept.run_setObj_map _ hb, Result.andThen]
    · intro q hq
      rcases List.mem_append.1 hq with hq | hq
      · exact h3 q hq
      · rw [List.mem_singleton.1 hq]; exact hs
    · refine List.pairwise_append.2 ⟨h4, List.pairwise_singleton _ _, fun p hp q hq => ?_⟩
      rw [List.mem_singleton.1 hq]
      intro hps
      have : (Value.agg (sa p.1), Value.int .i64 p.2) ∈ es.toList.map (fun x => (x.key, x.val)) := by rw [h2]; exact List.mem_map_of_mem (f := fun q : Sp × Int => (Value.agg (sa q.1), Value.int .i64 q.2)) hp
      obtain ⟨x, hx, ex⟩ := List.mem_map.1 this
      exact hn x hx ((Prod.ext_iff.1 ex).1.trans (by rw [hps]))
  · obtain ⟨u, e0, e2, e, _⟩ := (find_at es.toList l h2).2 j x hj hx (apart_at h2 h4 hj hx)
    rw [e]
    have hj' : es[j]? = some x := by simpa using hj
    refine ⟨{ w with heap := w.heap.setIfInBounds b (.map (es.modify j fun e => { e with key := .agg (sa s), val := .int .i64 v }) clock) }, ?_, ⟨_, _, (MapKept.heap_set hb).1, ?_, ?_, ?_⟩, ⟨rfl, rfl, rfl, by simp, fun i _ hi => (MapKept.heap_set hb).2 i (fun e => hi (by rw [e]))⟩⟩
    · simp [Instr.mapUpdate, run_underlying Try.underlying63, MapKept.run_getObj_map hb, hc, hf, hj', hx, law.stays w hk, MapKept.run_setObj_map _ hb, Result.andThen]
    · rw [Array.toList_modify, map_mod (fun x : MapEntry => (x.key, x.val)) (fun e : MapEntry => { e with key := .agg (sa s), val := .int .i64 v }) (Value.agg (sa s), Value.int .i64 v) es.toList j (fun _ => rfl), h2, List.map_set]
    · intro q hq
      rcases List.mem_or_eq_of_mem_set hq with hq | hq
      · exact h3 q hq
      · rw [hq]; exact hs
    · have hlj : ∃ q, l[j]? = some q ∧ q.1 = s := by
        have h1 : (es.toList.map (fun x => (x.key, x.val)))[j]? = some (x.key, x.val) := by rw [List.getElem?_map, hj]; rfl
        rw [h2, List.getElem?_map] at h1
        cases hq : l[j]? with
        | none => rw [hq] at h1; simp at h1
        | some q => rw [hq] at h1; exact ⟨q, rfl, sa_inj ((Prod.ext_iff.1 (Option.some.inj h1)).1.trans hx)⟩
      obtain ⟨q, hq, hqs⟩ := hlj
      have e1 : (l.set j (s, v)).map (·.1) = l.map (·.1) := by
        rw [List.map_set]
        refine List.set_getElem?_self' ?_
        rw [List.getElem?_map, hq]
        exact congrArg some hqs
      have h5 : (l.map (·.1)).Pairwise (· ≠ ·) := List.pairwise_map.2 h4
      rw [← e1] at h5
      exact List.pairwise_map.1 h5
end Go.Proofs.Ytbajjbgeohbdjaa.Wk
