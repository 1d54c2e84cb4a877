import Derived.Test.YtidhceebafmlkaaGreatDoorCaDraft
import Derived.Maps.AppendAt
import Derived.Lib.AppendZerosOnto
import Derived.Lib.Overlaps
import Derived.Laws.Externs
import Derived.Laws.NewBlocks
import Derived.Deep.QuietTactic
namespace Go.Proofs.YtidhceebafmlkaaGreatDoor.Ca
open Go.RowKit Cu Tr
def insE (es : List En) (i : Nat) (e : En) : List En := es.take i ++ e :: es.drop i
theorem insE_length (es : List En) (i : Nat) (e : En) (h : i ≤ es.length) : (insE es i e).length = es.length + 1 := by simp [insE]; omega
theorem insE_end (es : List En) (e : En) : insE es es.length e = es ++ [e] := by simp [insE]
theorem entCells_app (a b : List En) : entCells (a ++ b) = entCells a ++ entCells b := by simp [entCells]
theorem entCells_take (es : List En) (i : Nat) : entCells (es.take i) = (entCells es).take (i * 2) := by
  induction es generalizing i with
  | nil => simp [entCells]
  | cons e l ih =>
    cases i with
    | zero => simp [entCells]
    | succ i =>
      have h : entCells (e :: l) = ec e ++ entCells l := by simp [entCells]
      have h2 : (ec e).length = 2 := rfl
      rw [List.take_succ_cons, h, List.take_append, show (i + 1) * 2 - (ec e).length = i * 2 by omega, ← ih, List.take_of_length_le (l := ec e) (by omega)]
      simp [entCells]
theorem entCells_drop (es : List En) (i : Nat) : entCells (es.drop i) = (entCells es).drop (i * 2) := by
  induction es generalizing i with
  | nil => simp [entCells]
  | cons e l ih =>
    cases i with
    | zero => simp [entCells]
    | succ i =>
      have h : entCells (e :: l) = ec e ++ entCells l := by simp [entCells]
      have h2 : (ec e).length = 2 := rfl
      rw [List.drop_succ_cons, h, List.drop_append, show (i + 1) * 2 - (ec e).length = i * 2 by omega, ← ih, List.drop_eq_nil_of_le (show (ec e).length ≤ (i + 1) * 2 by omega)]
      simp
set_option maxRecDepth 100000 in
set_option maxHeartbeats 1000000 in
theorem insert_end (B : Nat) (v : Value) (es : List En) (e : En) (vb : Nat) (w : World) (h : RowE B v es w) (hn : es.length ≤ 1000000) (hB : B ≤ w.heap.size) (hv : w.heap[vb]? = some (.cells #[.string e.name, .int .i64 e.node] 116)) :
    Calls Tryz.prog 249 #[v, .int .i64 es.length, .slice (some ⟨vb, 0, none⟩) 1 1] w fun r w' => ∃ v', r = .returned v' ∧ RowE B v' (insE es es.length e) w' ∧ w.grownBy w' v.ownBlock ∧ (v'.ownBlock = v.ownBlock ∨ v'.ownBlock = some w.heap.size) := by
  obtain ⟨i0, hi, hz0, hz1, hz2⟩ := info_parts infoE
  have HS : Hid (∀ j u, (ec e)[j]? = some u → w.cell? ((⟨vb, 0, none⟩ : Addr).add j) = some u) := fun j u hj => by
    rw [add_none, cell_of_row _ _ _ _ _ _ hv, Nat.zero_add]
    simpa [ec] using hj
  have H1 : Hid (∀ u ∈ ec e, u.oneCell' = true) := fun u hu => by
    simp only [ec, List.mem_cons, List.not_mem_nil, or_false] at hu
    rcases hu with rfl | rfl <;> rfl
  have HR := hide h
  obtain ⟨a, c, hva⟩ : ∃ a c, v = .slice a es.length c := by
    rcases h.2 with ⟨rfl, h0⟩ | ⟨g, c, cur, rfl, _⟩
    · exact ⟨none, 0, by rw [h0]⟩
    · exact ⟨_, c, rfl⟩
  have hle : es.length ≤ c := by
    rcases h.2 with ⟨hq, h0⟩ | ⟨g, c', cur, hq, _, _, hle, _⟩
    · omega
    · rw [hva] at hq; injection hq with _ _ hq; omega
  have hIE := hide (insE_end es e)
  have hEC : Hid (entCells es ++ ec e = entCells (insE es es.length e)) := by
    show _ = _
    rw [insE_end, entCells_app]; simp [entCells]
  have hEL : Hid ((insE es es.length e).length = es.length + 1) := insE_length es es.length e (Nat.le_refl _)
  clear h hv hIE
  subst hva
  obtain ⟨L, hL⟩ : ∃ L, L = insE es es.length e := ⟨_, rfl⟩
  rw [← hL] at hEC hEL ⊢
  obtain ⟨n, hne⟩ : ∃ n, n = es.length := ⟨_, rfl⟩
  have HR2 : Hid (w.ownsRow B 116 2 (.slice a n c) n (entCells es)) := by rw [hne]; exact uh HR
  rw [← hne] at hn hle hEL ⊢
  clear HR hL hne
  go_enter Tryz.func249, Tryz.ntmps249
  go_wp2_with (at_builtin; refine wpList_append_own_at _ rfl _ _ 80 rfl B 116 i0 _ 2 24 Tryz.underlying80 hi hz0 hz1 hz2 rfl (by decide) (.slice a n c) n (entCells es) rfl (uh HR2) ⟨vb, 0, none⟩ 1 1 (ec e) rfl rfl (uh HS) (uh H1) (by unfold maxLen; omega) (by omega) hB ?_; intro v' w' hown' hg' _ hat'; replace hown' := hide hown'; replace hg' := hide hg'; replace hat' := hide hat')
  all_goals
    go_ret
    refine ⟨v', rfl, ?_, (by cases a <;> exact uh hg'), (by cases a <;> exact uh hat')⟩
    show World.ownsRow _ _ _ _ _ _ _
    rw [uh hEL, ← uh hEC]
    exact uh hown'
theorem wpList_appendR {P : Program} (w : World) {ops : Array Oper} {rest : List Oper} {o : Oper} {a : Act} {Q : Exit → Act → World → Prop} (hgd : o.guard = none) (d s : Operand) (t t' : TypeId)
    (ho : o.op = .call { callee := .builtin .append, args := #[d, s], argTypes := #[t, t'] }) (v u : Value) (hd : a.eval d = v) (hs : a.eval s = u) {v' : Value} {w' : World}
    (hr : (Builtin.append_ #[t, t'] o.type #[v, u]).run P w = .ok v' w') (h : wpList P ops Q rest (a.put o.dst v') w') : wpList P ops Q (o :: rest) a w := by
  refine wpList_plain hgd fun K hK => ?_
  unfold Oper.wp
  simp [execOp, ho, resolve, invoke, builtin, hd, hs, hr, Result.andThen]
  exact hK _ _ h
theorem in_place {C : List Value} {es : List En} {n c i : Nat} (e : En) (hne : n = es.length) (hl : C.length = c * 2) (ht : C.take (n * 2) = entCells es) (hi : i < n) (hc : n < c) :
    let X1 := C.take ((i + 1) * 2) ++ entCells (es.drop i) ++ C.drop ((i + 1) * 2 + (entCells (es.drop i)).length)
    let X2 := X1.take (i * 2) ++ ec e ++ X1.drop (i * 2 + (ec e).length)
    X1.length = c * 2 ∧ X2.length = c * 2 ∧ X2.take ((n + 1) * 2) = entCells (insE es i e) := by
  have hd : (entCells (es.drop i)).length = (n - i) * 2 := by rw [entCells_length, List.length_drop, hne]
  have h2 : (ec e).length = 2 := rfl
  have ht1 : (C.take ((i + 1) * 2)).length = (i + 1) * 2 := by rw [List.length_take, hl]; omega
  have hti : C.take (i * 2) = entCells (es.take i) := by rw [entCells_take, ← ht, List.take_take, Nat.min_eq_left (by omega)]
  have htil : (entCells (es.take i)).length = i * 2 := by rw [entCells_length, List.length_take, ← hne]; omega
  intro X1 X2
  have hX1 : X1 = C.take ((i + 1) * 2) ++ (entCells (es.drop i) ++ C.drop ((i + 1) * 2 + (n - i) * 2)) := by show _ ++ _ ++ _ = _; rw [hd, List.append_assoc]
  have e1 : X1.take (i * 2) = entCells (es.take i) := by
    rw [hX1, List.take_append_of_le_length (by omega), List.take_take, Nat.min_eq_left (by omega), hti]
  have e2 : X1.drop (i * 2 + (ec e).length) = entCells (es.drop i) ++ C.drop ((i + 1) * 2 + (n - i) * 2) := by
    rw [hX1, h2, show i * 2 + 2 = (C.take ((i + 1) * 2)).length by omega, List.drop_left]
  have hl1 : X1.length = c * 2 := by rw [hX1]; simp only [List.length_append, ht1, hd, List.length_drop, hl]; omega
  have e3 : X2 = entCells (insE es i e) ++ C.drop ((i + 1) * 2 + (n - i) * 2) := by
    show X1.take (i * 2) ++ ec e ++ X1.drop (i * 2 + (ec e).length) = _
    rw [e1, e2]
    simp [insE, entCells]
  have hil : (entCells (insE es i e)).length = (n + 1) * 2 := by rw [entCells_length, insE_length es i e (by omega), hne]
  refine ⟨hl1, ?_, ?_⟩
  · rw [e3, List.length_append, hil, List.length_drop, hl]; omega
  · rw [e3, ← hil, List.take_left]
set_option maxRecDepth 100000 in
set_option maxHeartbeats 1000000 in
theorem insert_room (B g c : Nat) (es : List En) (i : Nat) (e : En) (vb : Nat) (w : World) (h : RowE B (.slice (some ⟨g, 0, none⟩) es.length c) es w) (hi : i < es.length) (hroom : es.length < c) (hn : es.length ≤ 1000000) (hv : w.heap[vb]? = some (.cells #[.string e.name, .int .i64 e.node] 116)) (hvb : vb ≠ g) :
    Calls Tryz.prog 249 #[.slice (some ⟨g, 0, none⟩) es.length c, .int .i64 i, .slice (some ⟨vb, 0, none⟩) 1 1] w fun r w' => ∃ v', r = .returned v' ∧ RowE B v' (insE es i e) w' ∧ w.grownBy w' (some g) ∧ v'.ownBlock = some g := by
  obtain ⟨n, hne⟩ : ∃ n, n = es.length := ⟨_, rfl⟩
  rw [← hne] at hi hroom hn ⊢
  obtain ⟨C, hB, hg, hc63, hCl, hCt⟩ : ∃ C : List Value, B ≤ g ∧ w.heap[g]? = some (.cells C.toArray 116 (0, 0)) ∧ c ≤ maxLen ∧ C.length = c * 2 ∧ C.take (n * 2) = entCells es := by
    rcases h.2 with ⟨hq, _⟩ | ⟨g', c', cur, hq, h1, h2, _, hm, h3, h4⟩
    · cases hq
    · injection hq with hq1 _ hq2
      injection hq1 with hq1
      injection hq1 with hq1
      subst hq1 hq2
      rw [← hne] at h4
      exact ⟨cur.toList, h1, by simpa using h2, hm, by simpa using h3, h4⟩
  have hc64 : c ≤ 9223372036854775807 := by unfold maxLen at hc63; omega
  obtain ⟨hX1, hX2, hX3⟩ := in_place e hne hCl hCt hi hroom
  have hdl : (entCells (es.drop i)).length = (n - i) * 2 := by rw [entCells_length, List.length_drop, hne]
  have hsz : (Tryz.prog.info? 116).map (·.size) = some 2 := by
    obtain ⟨i0, hi0, _, hz1, _⟩ := info_parts infoE
    rw [hi0]; simp [hz1]
  have hov : ∀ lb cb, (callFunc 271 #[.slice (some ⟨vb, 0, none⟩) 1 1, .slice (some ⟨g, (i + 1) * 2, none⟩) lb cb]).run Tryz.prog w = .ok (.value (.bool false)) w := fun lb cb => by
    rw [run_callFunc_extern Tryz.func271 (by kernel_rfl) (by kernel_rfl) (by kernel_rfl) (e := Extern.SlicesOverlaps.overlaps #[80, 80] #[4]) (by kernel_rfl),
      Lib.run_overlaps_apart w 80 4 116 Tryz.underlying80 2 Tryz.sizeOf116 ⟨vb, 0, none⟩ ⟨g, (i + 1) * 2, none⟩ 1 1 lb cb hvb 116 116 2 (c * 2) (by simp [World.shape?, hv]) (by simp [World.shape?, hg, hCl]) (by omega) (by simp [World.frozen?, hv]) (by simp [World.frozen?, hv])]
    rfl
  have hcs : ∀ j v, (entCells (es.drop i))[j]? = some v → w.cell? ⟨g, i * 2 + j, none⟩ = some v := fun j v hj => by
    rw [cell_of_row _ _ _ _ _ _ hg]
    rw [entCells_drop, List.getElem?_drop, ← hCt, List.getElem?_take] at hj
    split at hj
    · simpa using hj
    · cases hj
  obtain ⟨Y, hY⟩ : ∃ Y, Y = entCells (es.drop i) := ⟨_, rfl⟩
  rw [← hY] at hX1 hX2 hX3 hdl hcs
  have hY1 : ∀ v ∈ Y, v.oneCell' = true := by rw [hY]; exact entCells_one _
  have hm1 : Nat.min (n + 1 - i) (n + 1 - (i + 1)) = n - i := by simp only [Nat.min_def]; split <;> omega
  have hm2 : Nat.min 1 (n + 1 - i) = 1 := by simp only [Nat.min_def]; split <;> omega
  have hcp1 : ∀ ty dc sc, (Builtin.copy_ #[80, 80] ty #[.slice (some ⟨g, (i + 1) * 2, none⟩) (n + 1 - (i + 1)) dc, .slice (some ⟨g, i * 2, none⟩) (n + 1 - i) sc]).run Tryz.prog w.drew = .ok (goInt ((n - i : Nat) : Int)) (w.drew.setRow g (C.take ((i + 1) * 2) ++ Y ++ C.drop ((i + 1) * 2 + Y.length)).toArray) := fun ty dc sc => by
    have q := run_copy_sz (P := Tryz.prog) w.drew 80 80 ty 116 2 g ((i + 1) * 2) (n + 1 - (i + 1)) dc ⟨g, i * 2, none⟩ (n + 1 - i) sc C.toArray 116 Y Tryz.underlying80 hsz hg (by rw [hm1]; exact hdl) (fun j v hj => by rw [add_none]; exact hcs j v hj) (by simp; omega) hY1
    rw [hm1] at q
    simpa using q
  obtain ⟨X1, hX1e⟩ : ∃ X1, X1 = C.take ((i + 1) * 2) ++ Y ++ C.drop ((i + 1) * 2 + Y.length) := ⟨_, rfl⟩
  rw [← hX1e] at hX1 hX2 hX3 hcp1
  obtain ⟨W1, hW1⟩ : ∃ W1, W1 = w.drew.setRow g X1.toArray := ⟨_, rfl⟩
  rw [← hW1] at hcp1
  have hg1 : W1.heap[g]? = some (.cells X1.toArray 116 (0, 0)) := by rw [hW1]; exact setRow_heap w.drew g _ _ _ _ hg
  have hv1 : W1.heap[vb]? = some (.cells #[.string e.name, .int .i64 e.node] 116) := by rw [hW1, setRow_other w.drew g vb _ hvb]; exact hv
  obtain ⟨X2, hX2e⟩ : ∃ X2, X2 = X1.take (i * 2) ++ ec e ++ X1.drop (i * 2 + (ec e).length) := ⟨_, rfl⟩
  rw [← hX2e] at hX2 hX3
  have hcp2 : ∀ ty dc, (Builtin.copy_ #[80, 80] ty #[.slice (some ⟨g, i * 2, none⟩) (n + 1 - i) dc, .slice (some ⟨vb, 0, none⟩) 1 1]).run Tryz.prog W1 = .ok (goInt 1) (W1.setRow g X2.toArray) := fun ty dc => by
    have q := run_copy_sz (P := Tryz.prog) W1 80 80 ty 116 2 g (i * 2) (n + 1 - i) dc ⟨vb, 0, none⟩ 1 1 X1.toArray 116 (ec e) Tryz.underlying80 hsz hg1 (by rw [hm2]; rfl) (fun j v hj => by rw [add_none, cell_of_row _ _ _ _ _ _ hv1, Nat.zero_add]; simpa [ec] using hj) (by simp [ec]; omega) (fun u hu => by
      simp only [ec, List.mem_cons, List.not_mem_nil, or_false] at hu
      rcases hu with rfl | rfl <;> rfl)
    rw [hm2] at q
    rw [hX2e]
    simpa using q
  have HG : Hid ((W1.setRow g X2.toArray).ownsRow B 116 2 (.slice (some ⟨g, 0, none⟩) (n + 1) c) (n + 1) (entCells (insE es i e))) :=
    ⟨by rw [← hX3, List.length_take, hX2]; omega, .inr ⟨g, c, X2.toArray, rfl, hB, setRow_heap W1 g _ _ _ _ hg1, by omega, hc63, by simpa using hX2, by simpa using hX3⟩⟩
  have HW : Hid (w.grownBy (W1.setRow g X2.toArray) (some g)) := by
    rw [hW1]
    exact ⟨rfl, rfl, rfl, by simp [World.setRow], fun k hk hne => by
      have hkg : k ≠ g := fun q => hne (by rw [q])
      rw [setRow_other _ g k _ hkg, setRow_other _ g k _ hkg]; rfl⟩
  obtain ⟨W2, hW2⟩ : ∃ W2, W2 = W1.setRow g X2.toArray := ⟨_, rfl⟩
  rw [← hW2] at hcp2 HG HW
  have hL : Hid ((insE es i e).length = n + 1) := by rw [hne]; exact insE_length es i e (by omega)
  have hz1' : ¬ ((i : Int) = (n : Int)) := by omega
  have hz2' : ¬ ((c : Int) < (n : Int) + 1) := by omega
  clear h hv hW2 hX2e hX2 hX3 hv1 hg1 hW1 hX1 hX1e hY1 hY hcs hCt hCl hdl hg hne hm1 hm2 hsz
  obtain ⟨I, hI⟩ : ∃ I, I = insE es i e := ⟨_, rfl⟩
  rw [← hI] at HG hL ⊢
  clear hI
  go_enter Tryz.func249, Tryz.ntmps249
  go_upto_region 15 with (simp only [hov])
  rw [show n + 1 - (i + 1) = n - i by omega] at hcp1
  go_region
  go_wp2
  go_ret
  refine ⟨_, rfl, ?_, uh HW, rfl⟩
  show World.ownsRow _ _ _ _ _ _ _
  rw [uh hL]
  exact uh HG
theorem in_new {R : List Value} {es : List En} {n G i : Nat} (e : En) (hne : n = es.length) (hl : R.length = G * 2) (ht : R.take (i * 2) = entCells (es.take i)) (hi : i < n) (hG : n + 1 ≤ G) :
    let X1 := R.take (i * 2) ++ ec e ++ R.drop (i * 2 + (ec e).length)
    let X2 := X1.take ((i + 1) * 2) ++ entCells (es.drop i) ++ X1.drop ((i + 1) * 2 + (entCells (es.drop i)).length)
    X1.length = G * 2 ∧ X2.length = G * 2 ∧ X2.take ((n + 1) * 2) = entCells (insE es i e) := by
  have hd : (entCells (es.drop i)).length = (n - i) * 2 := by rw [entCells_length, List.length_drop, hne]
  have h2 : (ec e).length = 2 := rfl
  have htil : (entCells (es.take i)).length = i * 2 := by rw [entCells_length, List.length_take, ← hne]; omega
  intro X1 X2
  have hX1 : X1 = (entCells (es.take i) ++ ec e) ++ R.drop (i * 2 + 2) := by show _ ++ _ ++ _ = _; rw [ht, h2]
  have hl1 : X1.length = G * 2 := by rw [hX1]; simp only [List.length_append, htil, h2, List.length_drop, hl]; omega
  have e1 : X1.take ((i + 1) * 2) = entCells (es.take i) ++ ec e := by
    rw [hX1, show (i + 1) * 2 = (entCells (es.take i) ++ ec e).length by rw [List.length_append, htil, h2]; omega, List.take_left]
  have e3 : X2 = entCells (insE es i e) ++ X1.drop ((i + 1) * 2 + (n - i) * 2) := by
    show X1.take ((i + 1) * 2) ++ entCells (es.drop i) ++ X1.drop ((i + 1) * 2 + (entCells (es.drop i)).length) = _
    rw [e1, hd]
    simp [insE, entCells]
  have hil : (entCells (insE es i e)).length = (n + 1) * 2 := by rw [entCells_length, insE_length es i e (by omega), hne]
  refine ⟨hl1, ?_, ?_⟩
  · rw [e3, List.length_append, hil, List.length_drop, hl1]; omega
  · rw [e3, ← hil, List.take_left]
set_option maxRecDepth 100000 in
set_option maxHeartbeats 1000000 in
theorem insert_grow (B g c : Nat) (es : List En) (i : Nat) (e : En) (vb : Nat) (w : World) (h : RowE B (.slice (some ⟨g, 0, none⟩) es.length c) es w) (hi : i < es.length) (hroom : c < es.length + 1) (hn : es.length ≤ 1000000) (hB : B ≤ w.heap.size) (hv : w.heap[vb]? = some (.cells #[.string e.name, .int .i64 e.node] 116)) :
    Calls Tryz.prog 249 #[.slice (some ⟨g, 0, none⟩) es.length c, .int .i64 i, .slice (some ⟨vb, 0, none⟩) 1 1] w fun r w' => ∃ v', r = .returned v' ∧ RowE B v' (insE es i e) w' ∧ w.grownBy w' none ∧ v'.ownBlock = some w.heap.size := by
  obtain ⟨n, hne⟩ : ∃ n, n = es.length := ⟨_, rfl⟩
  obtain ⟨i0, hi0, hz0, hzs, hzb⟩ := info_parts infoE
  have hsz : (Tryz.prog.info? 116).map (·.size) = some 2 := by rw [hi0]; simp [hzs]
  have hcells : ∀ j v, (entCells es)[j]? = some v → w.cell? ⟨g, j, none⟩ = some v := fun j v hj => by
    have hjl : j < es.length * 2 := by have := (List.getElem?_eq_some_iff.1 hj).1; rwa [entCells_length] at this
    rw [h.cellAt j hjl, hj]
  have hgl : g < w.heap.size := (h.lt g rfl).2
  have hvl : vb < w.heap.size := (Array.getElem?_eq_some_iff.1 hv).1
  have hle : es.length ≤ c := by
    rcases h.2 with ⟨hq, _⟩ | ⟨g', c', cur, hq, _, _, hle, _⟩
    · cases hq
    · injection hq with _ _ hq; omega
  rw [← hne] at hi hroom hn hle ⊢
  obtain rfl : c = n := by omega
  have hold : (Builtin.firstCells i0.size i (.slice (some ⟨g, 0, none⟩) i c)).run Tryz.prog w.drew = .ok (entCells (es.take i)).toArray w.drew := by
    rw [hzs]
    exact run_firstCells_some w.drew 2 i ⟨g, 0, none⟩ i c (entCells (es.take i)) (by rw [entCells_length, List.length_take, ← hne]; omega) (fun j v hj => by
      rw [add_none, Nat.zero_add]
      rw [entCells_take, List.getElem?_take] at hj
      split at hj
      · exact hcells j v hj
      · cases hj)
  have hap := Lib.run_append_grow_zeros w 80 3 80 116 i0 _ .i64 .i64 Tryz.underlying80 Tryz.underlying3 hi0 hz0 (some ⟨g, 0, none⟩) i c (entCells (es.take i)) hold (c + 1 - i) (by omega) (by omega) (by omega) (by omega) (by rw [hzb]; omega) (by rw [hzb, show i + (c + 1 - i) = c + 1 by omega]; exact growslice_fits hroom (by omega))
  rw [show i + (c + 1 - i) = c + 1 by omega, show ((c + 1 - i : Nat) : Int) = (c : Int) + 1 - (i : Int) by omega] at hap
  obtain ⟨G, hG⟩ : ∃ G, G = grownCap w (c + 1) c 116 := ⟨_, rfl⟩
  have hGn : c + 1 ≤ G := by rw [hG]; exact grownCap_ge w _ _ _
  have hGm : G ≤ maxLen := by rw [hG]; exact grownCap_le_maxLen w (c + 1) c 116 (by unfold maxLen; omega)
  rw [← hG] at hap
  obtain ⟨R, hR⟩ : ∃ R : List Value, (entCells (es.take i)).toArray ++ Builtin.zeroCells (Value.agg #[.string ⟨#[]⟩, .int .i64 0]).cells (c + 1 - i) ++ Builtin.zeroCells (Value.agg #[.string ⟨#[]⟩, .int .i64 0]).cells (G - (c + 1)) = R.toArray := ⟨_, (Array.toArray_toList).symm⟩
  rw [hR] at hap
  have htil : (entCells (es.take i)).length = i * 2 := by rw [entCells_length, List.length_take, ← hne]; omega
  have hRl : R.length = G * 2 := by
    have q := congrArg Array.size hR
    simp [Builtin.zeroCells, Value.cells, htil] at q
    omega
  have hRt : R.take (i * 2) = entCells (es.take i) := by
    have q := congrArg Array.toList hR
    simp only [Array.toList_append] at q
    have q2 : R = entCells (es.take i) ++ ((Builtin.zeroCells (Value.agg #[.string ⟨#[]⟩, .int .i64 0]).cells (c + 1 - i)).toList ++ (Builtin.zeroCells (Value.agg #[.string ⟨#[]⟩, .int .i64 0]).cells (G - (c + 1))).toList) := by
      rw [← List.append_assoc]; exact q.symm
    rw [q2, ← htil, List.take_left]
  obtain ⟨hX1, hX2, hX3⟩ := in_new e hne hRl hRt hi hGn
  have hdl : (entCells (es.drop i)).length = (c - i) * 2 := by rw [entCells_length, List.length_drop, hne]
  have hcs : ∀ j v, (entCells (es.drop i))[j]? = some v → w.cell? ⟨g, i * 2 + j, none⟩ = some v := fun j v hj => by
    rw [entCells_drop, List.getElem?_drop] at hj
    exact hcells _ v hj
  obtain ⟨Y, hY⟩ : ∃ Y, Y = entCells (es.drop i) := ⟨_, rfl⟩
  rw [← hY] at hX2 hX3 hdl hcs
  have hY1 : ∀ v ∈ Y, v.oneCell' = true := by rw [hY]; exact entCells_one _
  obtain ⟨N, hN⟩ : ∃ N, N = w.heap.size := ⟨_, rfl⟩
  obtain ⟨W1, hW1⟩ : ∃ W1, W1 = w.drew.alloc (.cells R.toArray 116) := ⟨_, rfl⟩
  have hg1 : W1.heap[N]? = some (.cells R.toArray 116 (0, 0)) := by rw [hW1, hN]; exact heap_alloc_new w.drew _
  have hb1 : Below w.heap.size w W1 := by rw [hW1]; exact (below_drew w 1).alloc (Nat.le_refl _) _
  rw [← hN, ← hW1] at hap
  have hm2 : Nat.min 1 (c + 1 - i) = 1 := by simp only [Nat.min_def]; split <;> omega
  have hm1 : Nat.min (c - i) (c - i) = c - i := Nat.min_self _
  obtain ⟨X1, hX1e⟩ : ∃ X1, X1 = R.take (i * 2) ++ ec e ++ R.drop (i * 2 + (ec e).length) := ⟨_, rfl⟩
  rw [← hX1e] at hX1 hX2 hX3
  have hcp1 : ∀ ty dc, (Builtin.copy_ #[80, 80] ty #[.slice (some ⟨N, i * 2, none⟩) (c + 1 - i) dc, .slice (some ⟨vb, 0, none⟩) 1 1]).run Tryz.prog W1 = .ok (goInt 1) (W1.setRow N X1.toArray) := fun ty dc => by
    have q := run_copy_sz (P := Tryz.prog) W1 80 80 ty 116 2 N (i * 2) (c + 1 - i) dc ⟨vb, 0, none⟩ 1 1 R.toArray 116 (ec e) Tryz.underlying80 hsz hg1 (by rw [hm2]; rfl) (fun j v hj => by rw [add_none, Nat.zero_add]; refine (hb1.cell (p := ⟨vb, j, none⟩) hvl).trans ?_; rw [cell_of_row _ _ _ _ _ _ hv]; simpa [ec] using hj) (by simp [ec]; omega) (fun u hu => by
      simp only [ec, List.mem_cons, List.not_mem_nil, or_false] at hu
      rcases hu with rfl | rfl <;> rfl)
    rw [hm2] at q
    rw [hX1e]
    simpa using q
  obtain ⟨W2, hW2⟩ : ∃ W2, W2 = W1.setRow N X1.toArray := ⟨_, rfl⟩
  rw [← hW2] at hcp1
  have hg2 : W2.heap[N]? = some (.cells X1.toArray 116 (0, 0)) := by rw [hW2]; exact setRow_heap W1 N _ _ _ _ hg1
  have hb2 : Below w.heap.size w W2 := by
    rw [hW2]
    exact hb1.trans ⟨rfl, rfl, rfl, by simp [World.setRow], fun k hk => setRow_other W1 N k _ (by omega)⟩
  obtain ⟨X2, hX2e⟩ : ∃ X2, X2 = X1.take ((i + 1) * 2) ++ Y ++ X1.drop ((i + 1) * 2 + Y.length) := ⟨_, rfl⟩
  rw [← hX2e] at hX2 hX3
  have hcp2 : ∀ ty dc sc, (Builtin.copy_ #[80, 80] ty #[.slice (some ⟨N, (i + 1) * 2, none⟩) (c - i) dc, .slice (some ⟨g, i * 2, none⟩) (c - i) sc]).run Tryz.prog W2.drew = .ok (goInt ((c - i : Nat) : Int)) (W2.drew.setRow N X2.toArray) := fun ty dc sc => by
    have q := run_copy_sz (P := Tryz.prog) W2.drew 80 80 ty 116 2 N ((i + 1) * 2) (c - i) dc ⟨g, i * 2, none⟩ (c - i) sc X1.toArray 116 Y Tryz.underlying80 hsz hg2 (by rw [hm1]; exact hdl) (fun j v hj => by rw [add_none]; exact (hb2.cell (p := ⟨g, i * 2 + j, none⟩) hgl).trans (hcs j v hj)) (by simp; omega) hY1
    rw [hm1] at q
    rw [hX2e]
    simpa using q
  have HG : Hid ((W2.drew.setRow N X2.toArray).ownsRow B 116 2 (.slice (some ⟨N, 0, none⟩) (c + 1) G) (c + 1) (entCells (insE es i e))) :=
    ⟨by rw [← hX3, List.length_take, hX2]; omega, .inr ⟨N, G, X2.toArray, rfl, by omega, setRow_heap W2.drew N _ _ _ _ hg2, by omega, hGm, by simpa using hX2, by simpa using hX3⟩⟩
  have HW : Hid (w.grownBy (W2.drew.setRow N X2.toArray) none) := by
    have hb3 : Below w.heap.size w (W2.drew.setRow N X2.toArray) := hb2.trans ⟨rfl, rfl, rfl, by simp [World.setRow], fun k hk => setRow_other W2.drew N k _ (by omega)⟩
    exact ⟨hb3.os, hb3.tape, hb3.output, hb3.size, fun k hk _ => hb3.block k hk⟩
  obtain ⟨W3, hW3⟩ : ∃ W3, W3 = W2.drew.setRow N X2.toArray := ⟨_, rfl⟩
  rw [← hW3] at hcp2 HG HW
  have hL : Hid ((insE es i e).length = c + 1) := by rw [hne]; exact insE_length es i e (by omega)
  have hz1' : ¬ ((i : Int) = (c : Int)) := by omega
  have hGi : ¬ (G = i) := by omega
  have hGi1 : ¬ (G = i + 1) := by omega
  have hG63 : G ≤ 9223372036854775807 := by unfold maxLen at hGm; omega
  have HN := hide hN
  rw [← hN]
  clear h hv hW3 hX2e hX2 hX3 hg2 hb2 hW2 hX1 hX1e hg1 hb1 hW1 hN hY1 hY hcs hdl hRt hRl htil hR hG hold hcells hne hm1 hm2 hsz hi0 hz0 hzs hzb
  obtain ⟨I, hI⟩ : ∃ I, I = insE es i e := ⟨_, rfl⟩
  rw [← hI] at HG hL ⊢
  clear hI
  go_enter Tryz.func249, Tryz.ntmps249
  go_upto_region 11 with (at_builtin; refine wpList_appendR w rfl _ _ 80 3 rfl _ _ rfl rfl hap ?_)
  go_region
  go_wp2
  go_ret
  refine ⟨_, rfl, ?_, uh HW, rfl⟩
  show World.ownsRow _ _ _ _ _ _ _
  rw [uh hL]
  exact uh HG
theorem insert_any (B : Nat) (v : Value) (es : List En) (i : Nat) (e : En) (vb : Nat) (w : World) (h : RowE B v es w) (hi : i ≤ es.length) (hn : es.length ≤ 1000000) (hB : B ≤ w.heap.size) (hv : w.heap[vb]? = some (.cells #[.string e.name, .int .i64 e.node] 116)) (hvb : v.ownBlock ≠ some vb) :
    Calls Tryz.prog 249 #[v, .int .i64 i, .slice (some ⟨vb, 0, none⟩) 1 1] w fun r w' => ∃ v', r = .returned v' ∧ RowE B v' (insE es i e) w' ∧ w.grownBy w' v.ownBlock ∧ (v'.ownBlock = v.ownBlock ∨ v'.ownBlock = some w.heap.size) := by
  by_cases hie : i = es.length
  · subst hie
    exact insert_end B v es e vb w h hn hB hv
  · have hlt : i < es.length := by omega
    obtain ⟨g, c, hvg⟩ : ∃ g c, v = .slice (some ⟨g, 0, none⟩) es.length c := by
      rcases h.2 with ⟨_, h0⟩ | ⟨g, c, cur, rfl, _⟩
      · omega
      · exact ⟨g, c, rfl⟩
    subst hvg
    by_cases hc : es.length < c
    · exact (insert_room B g c es i e vb w h hlt hc hn hv (fun q => hvb (by rw [q]; rfl))).mono fun r w' ⟨v', h1, h2, h3, h4⟩ => ⟨v', h1, h2, h3, .inl h4⟩
    · exact (insert_grow B g c es i e vb w h hlt (by omega) hn hB hv).mono fun r w' ⟨v', h1, h2, h3, h4⟩ => ⟨v', h1, h2, ⟨h3.os, h3.tape, h3.output, h3.size, fun k hk _ => h3.block k hk (by simp)⟩, .inr h4⟩
end Go.Proofs.YtidhceebafmlkaaGreatDoor.Ca
