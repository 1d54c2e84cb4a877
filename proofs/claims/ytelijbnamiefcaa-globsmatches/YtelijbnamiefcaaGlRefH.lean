/- What the document's Things answers. -/
import Derived.Test.YtelijbnamiefcaaGlRefC
import Derived.Deep.RegionHeld3
import Derived.Maps.AppendAt
import Derived.Great.BuildSlice
namespace Go.Proofs.Ytelijbnamiefcaa.Gl
open Go.RowKit

/-! ### a bracket, by its ends -/
theorem bang_take (X : Bs) (n : Nat) (h : 1 ≤ n) : bang (X.take n) = bang X := by
  cases X with
  | nil => simp
  | cons c r =>
    obtain ⟨m, rfl⟩ : ∃ m, n = m + 1 := ⟨n - 1, by omega⟩
    rfl
theorem unbang_drop (s : Bs) (k : Nat) : unbang (s.drop (k + 1)) = s.drop (fromP s k) := by
  unfold unbang fromP
  cases h : bang (s.drop (k + 1))
  · simp
  · simp [List.drop_drop]
theorem brk_at (s : Bs) (k : Nat) : brk (s.drop k) = if fromP s k + 1 + endP s k < s.length then fromP s k + 1 + endP s k + 1 - k else 0 := by
  have hF : k + 1 ≤ fromP s k := by unfold fromP; omega
  unfold brk
  rw [List.drop_drop, unbang_drop]
  by_cases h : fromP s k < s.length
  · rw [List.drop_eq_getElem_cons h]
    simp only []
    have hl : (s.drop (fromP s k + 1)).length = s.length - fromP s k - 1 := by rw [List.length_drop]; omega
    have hE : (s.drop (fromP s k + 1)).idxOf 93 = endP s k := rfl
    rw [hE, hl, List.length_drop]
    by_cases h2 : endP s k < s.length - fromP s k - 1
    · rw [if_pos h2, if_pos (by omega)]; omega
    · rw [if_neg h2, if_neg (by omega)]
  · rw [List.drop_eq_nil_of_le (by omega), if_neg (by omega)]
theorem kind_91 (s : Bs) (k : Nat) (hk : k < s.length) (h91 : s[k] = 91) : kindP (s.drop k) = if fromP s k + 1 + endP s k < s.length then (3, fromP s k + 1 + endP s k + 1 - k) else (4, 1) := by
  have hb := brk_at s k
  have hF : k + 1 ≤ fromP s k := by unfold fromP; omega
  have hd : s.drop k = 91 :: s.drop (k + 1) := by rw [List.drop_eq_getElem_cons hk, h91]
  rw [hd] at hb ⊢
  have : kindP (91 :: s.drop (k + 1)) = if 0 < brk (91 :: s.drop (k + 1)) then (3, brk (91 :: s.drop (k + 1))) else (4, 1) := rfl
  rw [this, hb]
  by_cases h : fromP s k + 1 + endP s k < s.length
  · rw [if_pos h, if_pos h, if_pos (by omega)]
  · rw [if_neg h, if_neg h, if_neg (by omega)]
theorem pred_91 (s : Bs) (k : Nat) (h : fromP s k + 1 + endP s k < s.length) (c : UInt8) : predP 3 ((s.drop k).take (fromP s k + 1 + endP s k + 1 - k)) c = (ins ((s.drop (fromP s k)).take (fromP s k + 1 + endP s k - fromP s k)) c != bang (s.drop (k + 1))) := by
  have hF : k + 1 ≤ fromP s k := by unfold fromP; omega
  obtain ⟨T, hT⟩ : ∃ T, T = fromP s k + 1 + endP s k := ⟨_, rfl⟩
  rw [← hT] at h ⊢
  have hTF : fromP s k + 1 ≤ T := by omega
  have hX : ((((s.drop k).take (T + 1 - k)).drop 1).take (((s.drop k).take (T + 1 - k)).length - 2)) = (s.drop (k + 1)).take (T - k - 1) := by
    rw [List.length_take, List.length_drop, List.drop_take, List.drop_drop, List.take_take]
    congr 1
    omega
  unfold predP
  rw [if_neg (by decide), if_pos rfl, hX]
  unfold withinP
  rw [bang_take _ _ (by omega)]
  congr 1
  unfold unbang
  rw [bang_take _ _ (by omega)]
  unfold fromP at hTF ⊢
  cases hb : bang (s.drop (k + 1))
  · simp only [Bool.false_eq_true, if_false, Bool.toNat_false, Nat.add_zero]
    congr 2
  · simp only [if_true, Bool.toNat_true]
    rw [List.drop_take, List.drop_drop]
    congr 2

/-! ### things in memory -/
def norm (t : Th) : Th := ⟨t.star, fun c => !t.star && t.p c⟩
def rtc (us : List Th) : List Value := us.flatMap fun t => (rcs t.star t.p).toList
theorem rtc_snoc (us : List Th) (t : Th) : rtc (us ++ [t]) = rtc us ++ (rcs t.star t.p).toList := by simp [rtc]
theorem mt_norm (ts : List Th) (n : Bs) : mt (ts.map norm) n = mt ts n := by
  induction ts generalizing n with
  | nil => rfl
  | cons t ts ih =>
    rw [List.map_cons]
    cases ht : t.star
    · have h2 : (norm t).star = false := ht
      cases n with
      | nil => rw [mt_one_nil ht, mt_one_nil h2]
      | cons c n =>
        rw [mt_one_cons ht, mt_one_cons h2, ih]
        simp [norm, ht]
    · have h2 : (norm t).star = true := ht
      induction n with
      | nil => rw [mt_star_nil ht, mt_star_nil h2, ih]
      | cons c n ihn => rw [mt_star_cons ht, mt_star_cons h2, ih, ihn]
theorem cells_new (w : World) (C : Array Value) (e : TypeId) : ∀ j u, C.toList[j]? = some u → (w.alloc (.cells C e)).cell? ((⟨w.heap.size, 0, none⟩ : Addr).add j) = some u := by
  intro j u hj
  have e1 : (⟨w.heap.size, 0, none⟩ : Addr).add j = ⟨w.heap.size, j, none⟩ := by unfold Addr.add; split <;> simp_all
  rw [e1, cell_of_row _ _ _ _ _ _ (heap_alloc_new w _)]
  simpa using hj
theorem rcs_ones (s : Bool) (p : UInt8 → Bool) : ∀ u ∈ (rcs s p).toList, u.oneCell' = true := by
  have h := rcs_one s p
  rw [Array.all_eq_true_iff_forall_mem] at h
  intro u hu
  exact h u (by simpa using hu)
/-- a thing is put behind the others -/
theorem rth_snoc {w9 : World} {B : Nat} {v' : Value} {ts : List Th} {t : Th} {C : Array Value} (hC : C = rcs (norm t).star (norm t).p) (h : w9.ownsRow B 49 257 v' (ts.length + 1) (rtc (ts.map norm) ++ C.toList)) : w9.ownsRow B 49 257 v' (ts ++ [t]).length (rtc ((ts ++ [t]).map norm)) := by
  rw [List.map_append, List.map_cons, List.map_nil, rtc_snoc, List.length_append, ← hC]
  exact h
/-! ### a list of one struct -/
theorem fill_one (C : Array Value) (s : Nat) (cells : Array Value) (hC : C.size = s) (hs : 0 < s) (hc : cells.size = s) : Instr.fill (fun i => some (i * s, s)) cells [(0, .agg C)] = some C := by
  have h := Great.fill_whole hs [.agg C] cells (fun v hv => by rw [List.mem_singleton] at hv; rw [hv]; exact hC) (by simp [hc])
  have e : ([Value.agg C].flatMap fun v => v.cells.toList).toArray = C := by
    show (C.toList ++ []).toArray = C
    simp
  rw [e] at h
  exact h
theorem wp_buildOne {P : Program} {o : Oper} {a : Act} {w : World} {K : Act → World → Prop} {Q : Exit → Act → World → Prop} (t e : TypeId) (x : Operand) (ho : o.op = .buildSlice t 1 #[(0, x)]) (C : Array Value) (hx : a.eval x = .agg C) (ie : TypeInfo) (z : Value)
    (hu : P.underlying t = some (.slice e)) (hie : P.info? e = some ie) (hz : ie.zero = some z) (s : Nat) (hs : ie.size = s) (hC : C.size = s) (h0 : 0 < s) (hsm : s ≤ 1000)
    (h : K (a.put o.dst (.slice (some ⟨w.heap.size, 0, none⟩) 1 1)) (w.alloc (.cells C e))) : o.wp P a w K Q := by
  refine wp_buildSlice t e 1 _ ho C ie z hu hie hz (by rw [hs]; omega) (by rw [hs]; omega) ?_ h
  rw [hs]
  have hp : (#[(0, x)].map fun (p : Nat × Operand) => (p.1, a.eval p.2)).toList = [(0, .agg C)] := by simp [hx]
  show Instr.fill (fun i => some (i * s, s)) _ (#[(0, x)].map fun (p : Nat × Operand) => (p.1, a.eval p.2)).toList = some C
  rw [hp]
  exact fill_one C s _ hC h0 (by simp)
theorem wpList_buildOne {P : Program} {ops : Array Oper} {rest : List Oper} {o : Oper} {a : Act} {w : World} {Q : Exit → Act → World → Prop} (hg : o.guard = none) (t e : TypeId) (x : Operand) (ho : o.op = .buildSlice t 1 #[(0, x)]) (C : Array Value) (hx : a.eval x = .agg C) (ie : TypeInfo) (z : Value)
    (hu : P.underlying t = some (.slice e)) (hie : P.info? e = some ie) (hz : ie.zero = some z) (s : Nat) (hs : ie.size = s) (hC : C.size = s) (h0 : 0 < s) (hsm : s ≤ 1000)
    (h : wpList P ops Q rest (a.put o.dst (.slice (some ⟨w.heap.size, 0, none⟩) 1 1)) (w.alloc (.cells C e))) : wpList P ops Q (o :: rest) a w :=
  wpList_plain hg fun _ hK => wp_buildOne t e x ho C hx ie z hu hie hz s hs hC h0 hsm (hK _ _ h)
theorem step_buildOne {P : Program} {ops : Array Oper} {o : Oper} {a : Act} {w : World} {K : Act → World → Prop} {Q : Exit → Act → World → Prop} {E : Prop} (hgd : o.guard = none) (t e : TypeId) (x : Operand) (ho : o.op = .buildSlice t 1 #[(0, x)]) (C : Array Value) (hx : a.eval x = .agg C) (ie : TypeInfo) (z : Value)
    (hu : P.underlying t = some (.slice e)) (hie : P.info? e = some ie) (hz : ie.zero = some z) (s : Nat) (hs : ie.size = s) (hC : C.size = s) (h0 : 0 < s) (hsm : s ≤ 1000)
    (h : K (a.put o.dst (.slice (some ⟨w.heap.size, 0, none⟩) 1 1)) (w.alloc (.cells C e))) :
    if Region.wanted o (yielded ops a.tmps) = true then Oper.wp P o a w K Q else E := by
  have hw : Region.wanted o (yielded ops a.tmps) = true := by simp [Region.wanted, hgd]
  rw [if_pos hw]
  exact wp_buildOne t e x ho C hx ie z hu hie hz s hs hC h0 hsm h
end Go.Proofs.Ytelijbnamiefcaa.Gl
