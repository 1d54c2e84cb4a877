/- Of items that are alike the first one: slices.CompactFunc. -/
import Derived.Test.YtmpppdbomdepoaaGreatDoorSoInOrder
import Derived.Lib.SliceRun
namespace Go.Proofs.YtmpppdbomdepoaaGreatDoor.So
open Go.RowKit Go.Shelf Ky
open Pa (Tx)

attribute [local go_sem] Oper.semAt_some

theorem uqr_app {α : Type} (c : α → α → Int) : ∀ (p : α) (l : List α) (y : α), uqr c p (l ++ [y]) = uqr c p l ++ (if c ((p :: l).getLast (by simp)) y = 0 then [] else [y])
  | p, [], y => by simp only [List.nil_append, uqr, List.getLast_singleton]; by_cases h : c p y = 0 <;> simp [h]
  | p, z :: l, y => by
    have i := uqr_app c z l y
    have e : (p :: z :: l).getLast (by simp) = (z :: l).getLast (by simp) := by simp
    rw [e, List.cons_append]
    simp only [uqr]
    split
    · exact i
    · rw [i]; rfl
theorem uq_app {α : Type} (c : α → α → Int) (l : List α) (h : l ≠ []) (y : α) : uq c (l ++ [y]) = uq c l ++ (if c (l.getLast h) y = 0 then [] else [y]) := by
  cases l with
  | nil => exact absurd rfl h
  | cons x l => simp only [List.cons_append, uq]; rw [uqr_app]
theorem uq_more {α : Type} (c : α → α → Int) (d : α) (M : List α) (i : Nat) (h : i < M.length) (h0 : 0 < i) : uq c (M.take (i + 1)) = uq c (M.take i) ++ (if c (M.getD (i - 1) d) (M.getD i d) = 0 then [] else [M.getD i d]) := by
  have e1 : M.take (i + 1) = M.take i ++ [M.getD i d] := by rw [List.take_succ_eq_append_getElem h, getD_get d M h]
  have hne : M.take i ≠ [] := fun e => by have := congrArg List.length e; rw [List.length_take, List.length_nil] at this; omega
  have hl : (M.take i).getLast hne = M.getD (i - 1) d := by
    rw [List.getLast_eq_getElem, getD_get d M (by omega)]
    simp [show min i M.length - 1 = i - 1 by omega]
  rw [e1, uq_app c _ hne, hl]
theorem uq_le {α : Type} (c : α → α → Int) (M : List α) (i : Nat) (h : i ≤ M.length) : (uq c (M.take i)).length ≤ i := by
  have := uq_len c (M.take i); rw [List.length_take] at this; omega
/-- the first ones that are left, and behind them what was there -/
def cmpt (c : It → It → Int) (M : List It) (i : Nat) : List It := uq c (M.take i) ++ M.drop (uq c (M.take i)).length
theorem cmpt_len (c : It → It → Int) (M : List It) (i : Nat) (h : i ≤ M.length) : (cmpt c M i).length = M.length := by
  have := uq_le c M i h
  simp [cmpt]; omega
theorem cmpt_behind (c : It → It → Int) (M : List It) (i j : Nat) (h : (uq c (M.take i)).length ≤ j) : (cmpt c M i).getD j it0 = M.getD j it0 := by
  unfold cmpt
  rw [List.getD_eq_getElem?_getD, List.getElem?_append_right h, List.getElem?_drop, show (uq c (M.take i)).length + (j - (uq c (M.take i)).length) = j by omega, ← List.getD_eq_getElem?_getD]
theorem cmpt_same (c : It → It → Int) (M : List It) (i : Nat) (hi : i < M.length) (h0 : 0 < i) (he : c (M.getD (i - 1) it0) (M.getD i it0) = 0) : cmpt c M (i + 1) = cmpt c M i ∧ (uq c (M.take (i + 1))).length = (uq c (M.take i)).length := by
  have := uq_more c it0 M i hi h0
  rw [if_pos he, List.append_nil] at this
  unfold cmpt
  rw [this]; exact ⟨rfl, rfl⟩
theorem cmpt_step (c : It → It → Int) (M : List It) (i : Nat) (hi : i < M.length) (h0 : 0 < i) (he : ¬ c (M.getD (i - 1) it0) (M.getD i it0) = 0) : (cmpt c M i).set (uq c (M.take i)).length (M.getD i it0) = cmpt c M (i + 1) ∧ (uq c (M.take (i + 1))).length = (uq c (M.take i)).length + 1 := by
  have e := uq_more c it0 M i hi h0
  rw [if_neg he] at e
  have hl := uq_le c M i (by omega)
  refine ⟨?_, by rw [e]; simp⟩
  unfold cmpt
  rw [e, List.set_append_right _ _ (Nat.le_refl _), Nat.sub_self, List.drop_eq_getElem_cons (by omega : (uq c (M.take i)).length < M.length), List.set_cons_zero]
  simp
theorem uq_take_all (c : It → It → Int) (M : List It) : ∀ k, k ≤ M.length → (∀ j, 0 < j → j < k → ¬ c (M.getD (j - 1) it0) (M.getD j it0) = 0) → uq c (M.take k) = M.take k
  | 0, _, _ => rfl
  | k + 1, hk, h => by
    have i := uq_take_all c M k (by omega) (fun j h1 h2 => h j h1 (by omega))
    have e1 : M.take (k + 1) = M.take k ++ [M.getD k it0] := by rw [List.take_succ_eq_append_getElem (by omega), getD_get it0 M (by omega)]
    by_cases h0 : k = 0
    · subst h0; rw [e1]; rfl
    · have e := uq_more c it0 M k (by omega) (by omega)
      rw [if_neg (h k (by omega) (by omega)), i] at e
      rw [e, e1]

/-- 'clear' of items -/
theorem run_clear3 {P : Program} (w : World) (t e ty : TypeId) (z : Value) (a1 a2 a3 : Value) (ht : P.underlying t = some (.slice e)) (hv : ∀ w, (zeroValue e).run P w = .ok z w) (hz : z.cells = #[a1, a2, a3]) (h1 : a1.oneCell' = true ∧ a2.oneCell' = true ∧ a3.oneCell' = true) (b o n c : Nat) (hn : 0 < n)
    (hc : ∀ j, j < n * 3 → (w.cell? ⟨b, o + j, none⟩).isSome = true) (hf : ∀ j, j < n * 3 → w.frozen? ⟨b, o + j, none⟩ = false) :
    ∃ vs, (Builtin.clear_ #[t] ty #[.slice (some ⟨b, o, none⟩) n c]).run P w = .ok (.tuple #[]) (w.setCells b o vs) := by
  obtain ⟨vs, hvs⟩ : ∃ vs, vs = (Builtin.zeroCells z.cells n).toList := ⟨_, rfl⟩
  have hl : vs.length = n * 3 := by rw [hvs, hz]; simp [Builtin.zeroCells]
  have ho : ∀ v ∈ vs, v.oneCell' = true := by
    intro v hv'
    rw [hvs, hz] at hv'
    simp [Builtin.zeroCells] at hv'
    obtain ⟨i, _, rfl⟩ := hv'
    rcases (show i % 3 = 0 ∨ i % 3 = 1 ∨ i % 3 = 2 by omega) with h | h | h <;> rw [h]
    · exact h1.1
    · exact h1.2.1
    · exact h1.2.2
  have hst := run_storeCells_cells (P := P) b o vs 0 w (by rw [hl]; simpa using hc) (by rw [hl]; simpa using hf) ho
  simp only [Nat.add_zero] at hst
  obtain ⟨m, rfl⟩ : ∃ m, n = m + 1 := ⟨n - 1, by omega⟩
  exact ⟨vs, by simp [Builtin.clear_, run_underlying ht, hv, ← hvs, hst]⟩
theorem Row3.out {g cap : Nat} {L : List It} : ∀ (vs : List Value) (o : Nat) (w : World), Row3 g cap w L → L.length * 3 ≤ o → Row3 g cap (w.setCells g o vs) L
  | [], _, _, h, _ => h
  | v :: vs, o, _, h, ho => by
    refine Row3.out vs (o + 1) _ ?_ (by omega)
    obtain ⟨cur, h1, h2, h3, h4⟩ := h
    refine ⟨_, row_set v h1, by simpa using h2, h3, ?_⟩
    rw [← h4]
    simp [List.take_set_of_le ho]
theorem Kp.out {g : Nat} {a : World} : ∀ (vs : List Value) (o : Nat) (w : World), Kp (fun k => k = g) a w → Kp (fun k => k = g) a (w.setCells g o vs)
  | [], _, _, h => h
  | v :: vs, o, _, h => Kp.out vs (o + 1) _ (h.set1 o v)
theorem Tryz.zeroItem (w : World) : (zeroValue 66).run Tryz.prog w = .ok (.agg #[.string ByteArray.empty, .string ByteArray.empty, .int .i64 0]) w := by kernel_rfl

set_option maxRecDepth 100000 in
set_option maxHeartbeats 400000 in
theorem alike1_any {W0 : World} {X : Nat → Prop} {f : Value} {c : It → It → Int} {D : It → Prop} (hf : Cmp W0 X f c D) (x : Nat) (a b : It) (w : World) (hB : Kp X W0 w) (hx : w.cell? ⟨x, 0, none⟩ = some f) (ha : D a) (hb : D b) :
    Calls Tryz.prog 118 #[ia a, ia b, .pointer (some ⟨x, 0, none⟩)] w fun e w' => e = .returned (.bool (decide (c a b = 0))) ∧ Below w.heap.size w w' := by
  obtain ⟨i1, c1, rfl, e1, k1⟩ := hf
  have hxl : x < w.heap.size := cell_lt hx
  have K1 : Hid (∀ W, Below w.heap.size w W → Calls Tryz.prog i1 (#[ia a, ia b] ++ c1) W fun e w' => e = .returned (.int .i64 (c a b)) ∧ Below W.heap.size W w') := fun W h => k1 W (hB.trans (Kp.of h (X := X)) (fun _ _ q => q) (fun _ _ q => q)) a b ha hb
  clear k1 ha hb hB
  generalize c a b = r1 at *
  obtain ⟨al, ak, ap⟩ := a
  obtain ⟨bl, bk, bp⟩ := b
  unfold ia at *
  simp only at K1 ⊢
  have hB0 : Hid (∀ o1 o2, Below w.heap.size w ((w.alloc o1).alloc o2)) := fun o1 o2 => ((Below.refl _ w).alloc (Nat.le_refl _) _).alloc (by simp) _
  go_enter Tryz.func118, Tryz.ntmps118
  go_wp2_with fail
  refine (unhide K1 _ (unhide hB0 _ _)).mono ?_
  rintro e w1 ⟨rfl, b1⟩
  have HB1 : Hid (Below w.heap.size w w1) := (unhide hB0 _ _).trans (b1.mono (by simp; omega))
  clear b1 hB0 K1
  go_wp2_with fail
  go_ret
  exact ⟨by congr 2, unhide HB1⟩

set_option maxRecDepth 100000 in
set_option maxHeartbeats 1600000 in
theorem compact_any (M : List It) (g cap : Nat) (f : Value) (c : It → It → Int) (w : World) (hG : Ky.Good c) (hC : Eqf w (fun k => k = g) f (fun a b => decide (c a b = 0)) DI) (hR : Row3 g cap w M) (hl : M.length ≤ 65536) (hD : ∀ x ∈ M, DI x) :
    Calls Tryz.prog 117 #[.slice (some ⟨g, 0, none⟩) M.length cap, f] w fun e w' => e = .returned (.slice (some ⟨g, 0, none⟩) (uq c M).length cap) ∧ Hid (Row3 g cap w' (uq c M) ∧ Kp (fun k => k = g) w w') := by
  obtain ⟨id, cp, rfl, en, CC⟩ := hC
  have hcap : M.length ≤ cap := by obtain ⟨_, _, _, q, _⟩ := hR; exact q
  have CX : Hid (∀ W (i j : Nat), Kp (fun k => k = g) w W → i < M.length → j < M.length → Calls Tryz.prog id (#[ia (M.getD i it0), ia (M.getD j it0)] ++ cp) W fun e w' => e = .returned (.bool (decide (c (M.getD i it0) (M.getD j it0) = 0))) ∧ Below W.heap.size W w') := fun W i j h hi hj => CC W h _ _ (hD _ (it_mem hi)) (hD _ (it_mem hj))
  have HG := hide hG
  have HR := hide hR
  have hgl := hR.lt
  clear CC hD hG hR
  by_cases h2 : M.length < 2
  · have hU : Hid (uq c M = M) := by
      match M, h2 with
      | [], _ => exact rfl
      | [x], _ => exact rfl
    have h2' : (M.length : Int) < 2 := by omega
    rw [unhide hU]
    clear hU h2 CX
    go_enter Tryz.func117, Tryz.ntmps117
    go_wp2_with fail
    go_ret
    exact ⟨rfl, unhide HR, Kp.refl _ _⟩
  · have h2' : ¬ (M.length : Int) < 2 := by omega
    obtain ⟨U, hU⟩ : ∃ U, U = uq c M := ⟨_, rfl⟩
    rw [← hU]
    have HU := hide hU
    clear hU
    go_enter Tryz.func117, Tryz.ntmps117
    go_wp2_with fail
    go_loopw [5] (fun v wr => ∃ k : Nat, 1 ≤ k ∧ k ≤ M.length ∧ v = .int .i64 k ∧ Hid (∀ j, 0 < j → j < k → ¬ c (M.getD (j - 1) it0) (M.getD j it0) = 0) ∧ Hid (Row3 g cap wr M) ∧ Hid (Kp (fun k => k = g) w wr)) (fun v _ => M.length - (intOf v).toNat)
    case atStart => exact ⟨1, Nat.le_refl _, by omega, rfl, (fun j h1 h2 => by omega), HR, Kp.refl _ _⟩
    case round =>
      clear HR
      obtain ⟨k, hk1, hkn, rfl, hA, hR, hK⟩ := hrel
      by_cases hlt : k < M.length
      · obtain ⟨m, hm⟩ : ∃ m, m + 1 = k := ⟨k - 1, by omega⟩
        have em : (k : Int) - 1 = (m : Int) := by omega
        have hmlt : m < M.length := by omega
        have hw1 : IntKind.i64.wrap ((k : Int) - 1) = (m : Int) := by rw [IntKind.wrap_i64]; omega
        have hw2 : IntKind.i64.wrap (m : Int) = (m : Int) := by rw [IntKind.wrap_i64]; omega
        have hAA : ∀ W, (Row3 g cap W M ∧ Kp (fun k => k = g) w W) → (W.cell? ⟨g, k * 3, none⟩ = some (.string (M.getD k it0).line) ∧ W.cell? ⟨g, k * 3 + 1, none⟩ = some (.string (M.getD k it0).key) ∧ W.cell? ⟨g, k * 3 + 2, none⟩ = some (.int .i64 (M.getD k it0).place) ∧ W.cell? ⟨g, m * 3, none⟩ = some (.string (M.getD m it0).line) ∧ W.cell? ⟨g, m * 3 + 1, none⟩ = some (.string (M.getD m it0).key) ∧ W.cell? ⟨g, m * 3 + 2, none⟩ = some (.int .i64 (M.getD m it0).place) ∧ Hid (Row3 g cap W M ∧ Kp (fun k => k = g) w W)) := fun W h => by
          obtain ⟨i0, i1, i2⟩ := h.1.cells hlt
          obtain ⟨j0, j1, j2⟩ := h.1.cells hmlt
          exact ⟨i0, i1, i2, j0, j1, j2, h⟩
        have CY : Hid (∀ W, (W.cell? ⟨g, k * 3, none⟩ = some (.string (M.getD k it0).line) ∧ W.cell? ⟨g, k * 3 + 1, none⟩ = some (.string (M.getD k it0).key) ∧ W.cell? ⟨g, k * 3 + 2, none⟩ = some (.int .i64 (M.getD k it0).place) ∧ W.cell? ⟨g, m * 3, none⟩ = some (.string (M.getD m it0).line) ∧ W.cell? ⟨g, m * 3 + 1, none⟩ = some (.string (M.getD m it0).key) ∧ W.cell? ⟨g, m * 3 + 2, none⟩ = some (.int .i64 (M.getD m it0).place) ∧ Hid (Row3 g cap W M ∧ Kp (fun k => k = g) w W)) → Calls Tryz.prog id (#[ia (M.getD k it0), ia (M.getD m it0)] ++ cp) W fun e w' => e = .returned (.bool (decide (c (M.getD k it0) (M.getD m it0) = 0))) ∧ (w'.cell? ⟨g, k * 3, none⟩ = some (.string (M.getD k it0).line) ∧ w'.cell? ⟨g, k * 3 + 1, none⟩ = some (.string (M.getD k it0).key) ∧ w'.cell? ⟨g, k * 3 + 2, none⟩ = some (.int .i64 (M.getD k it0).place) ∧ w'.cell? ⟨g, m * 3, none⟩ = some (.string (M.getD m it0).line) ∧ w'.cell? ⟨g, m * 3 + 1, none⟩ = some (.string (M.getD m it0).key) ∧ w'.cell? ⟨g, m * 3 + 2, none⟩ = some (.int .i64 (M.getD m it0).place) ∧ Hid (Row3 g cap w' M ∧ Kp (fun k => k = g) w w'))) := fun W h =>
          (unhide CX W k m (unhide h.2.2.2.2.2.2).2 hlt hmlt).mono fun e w' r => ⟨r.1, hAA w' ⟨(unhide h.2.2.2.2.2.2).1.keep (r.2.block _ (unhide h.2.2.2.2.2.2).1.lt), (unhide h.2.2.2.2.2.2).2.step r.2⟩⟩
        have H := hAA wr.drew ⟨(unhide hR).drew, (unhide hK).drew⟩
        have hcm : Hid (c (M.getD k it0) (M.getD m it0) = 0 ↔ c (M.getD (k - 1) it0) (M.getD k it0) = 0) := by
          show _ ↔ _
          rw [show k - 1 = m by omega, (unhide HG).tn (M.getD m it0) (M.getD k it0)]; omega
        clear hAA hR hK
        unfold ia at CY
        by_cases he : c (M.getD k it0) (M.getD m it0) = 0
        · rw [decide_eq_true he] at CY
          have he' := hide ((unhide hcm).1 he)
          clear he hcm
          generalize M.getD k it0 = a at H CY
          generalize M.getD m it0 = b at H CY
          obtain ⟨al, ak, ap⟩ := a
          obtain ⟨bl, bk, bp⟩ := b
          simp only at H CY
          go_wp2_with fail
          go_region_held3 (fun w' => w'.cell? ⟨g, k * 3, none⟩ = some (.string al) ∧ w'.cell? ⟨g, k * 3 + 1, none⟩ = some (.string ak) ∧ w'.cell? ⟨g, k * 3 + 2, none⟩ = some (.int .i64 ap) ∧ w'.cell? ⟨g, m * 3, none⟩ = some (.string bl) ∧ w'.cell? ⟨g, m * 3 + 1, none⟩ = some (.string bk) ∧ w'.cell? ⟨g, m * 3 + 2, none⟩ = some (.int .i64 bp) ∧ Hid (Row3 g cap w' M ∧ Kp (fun k => k = g) w w')) (first | assumption | go_keep)
            (with_reducible refine (unhide CY _ (by assumption)).mono ?_; rintro e w' ⟨rfl, hS1⟩)
          have hRK := hS1.2.2.2.2.2.2
          clear hS1 H CY
          go_wp2_with fail
          have hI0 : Hid ((uq c (M.take (k + 1))).length = k ∧ cmpt c M (k + 1) = M) := by
            have q1 := uq_take_all c M k (by omega) (unhide hA)
            have q2 := cmpt_same c M k hlt (by omega) (unhide he')
            refine ⟨by rw [q2.2, q1, List.length_take]; omega, ?_⟩
            rw [q2.1]
            unfold cmpt
            rw [q1, List.length_take, show min k M.length = k by omega, List.take_append_drop]
          have hRK0 : Hid (Row3 g cap w' (cmpt c M (k + 1)) ∧ Kp (fun k => k = g) w w') := by rw [(unhide hI0).2]; exact hRK
          clear hRK hA he' hm em hw1 hw2 hmlt
          go_loopw [5, 7] (fun v5 v7 wy => ∃ u q : Nat, 1 ≤ q ∧ k + q ≤ M.length ∧ u + 1 ≤ k + q ∧ v5 = .int .i64 u ∧ v7 = .int .i64 q ∧ Hid (u = (uq c (M.take (k + q))).length) ∧ Hid (Row3 g cap wy (cmpt c M (k + q)) ∧ Kp (fun k => k = g) w wy)) (fun _ v7 _ => M.length - k - (intOf v7).toNat)
          case atStart => exact ⟨k, 1, Nat.le_refl _, by omega, Nat.le_refl _, rfl, rfl, (unhide hI0).1.symm, hRK0⟩
          case round =>
            clear hI0 hRK0
            obtain ⟨u, q, hq1, hqn, huq, rfl, rfl, hu, hRK⟩ := hrel
            by_cases hql : k + q < M.length
            · have hql' : (q : Int) < ((M.length - k : Nat) : Int) := by omega
              have hql2 : q < M.length - k := by omega
              obtain ⟨p, hp⟩ : ∃ p, p + 1 = q := ⟨q - 1, by omega⟩
              have ep : (q : Int) - 1 = (p : Int) := by omega
              have hpl : p < M.length - k := by omega
              have hw1 : IntKind.i64.wrap ((q : Int) - 1) = (p : Int) := by rw [IntKind.wrap_i64]; omega
              have hw2 : IntKind.i64.wrap (p : Int) = (p : Int) := by rw [IntKind.wrap_i64]; omega
              have hAA : ∀ W, (Row3 g cap W (cmpt c M (k + q)) ∧ Kp (fun k => k = g) w W) → (W.cell? ⟨g, k * 3 + q * 3, none⟩ = some (.string (M.getD (k + q) it0).line) ∧ W.cell? ⟨g, k * 3 + q * 3 + 1, none⟩ = some (.string (M.getD (k + q) it0).key) ∧ W.cell? ⟨g, k * 3 + q * 3 + 2, none⟩ = some (.int .i64 (M.getD (k + q) it0).place) ∧ W.cell? ⟨g, k * 3 + p * 3, none⟩ = some (.string (M.getD (k + p) it0).line) ∧ W.cell? ⟨g, k * 3 + p * 3 + 1, none⟩ = some (.string (M.getD (k + p) it0).key) ∧ W.cell? ⟨g, k * 3 + p * 3 + 2, none⟩ = some (.int .i64 (M.getD (k + p) it0).place) ∧ Hid (Row3 g cap W (cmpt c M (k + q)) ∧ Kp (fun k => k = g) w W)) := fun W h => by
                have hle : (uq c (M.take (k + q))).length ≤ k + p := by have := unhide hu; omega
                obtain ⟨i0, i1, i2⟩ := h.1.cells (i := k + q) (by rw [cmpt_len c M _ hqn]; exact hql)
                obtain ⟨j0, j1, j2⟩ := h.1.cells (i := k + p) (by rw [cmpt_len c M _ hqn]; omega)
                rw [cmpt_behind c M (k + q) (k + q) (by omega)] at i0 i1 i2
                rw [cmpt_behind c M (k + q) (k + p) hle] at j0 j1 j2
                rw [Nat.add_mul] at i0 i1 i2 j0 j1 j2
                exact ⟨i0, i1, i2, j0, j1, j2, h⟩
              have CY : Hid (∀ W, (W.cell? ⟨g, k * 3 + q * 3, none⟩ = some (.string (M.getD (k + q) it0).line) ∧ W.cell? ⟨g, k * 3 + q * 3 + 1, none⟩ = some (.string (M.getD (k + q) it0).key) ∧ W.cell? ⟨g, k * 3 + q * 3 + 2, none⟩ = some (.int .i64 (M.getD (k + q) it0).place) ∧ W.cell? ⟨g, k * 3 + p * 3, none⟩ = some (.string (M.getD (k + p) it0).line) ∧ W.cell? ⟨g, k * 3 + p * 3 + 1, none⟩ = some (.string (M.getD (k + p) it0).key) ∧ W.cell? ⟨g, k * 3 + p * 3 + 2, none⟩ = some (.int .i64 (M.getD (k + p) it0).place) ∧ Hid (Row3 g cap W (cmpt c M (k + q)) ∧ Kp (fun k => k = g) w W)) → Calls Tryz.prog id (#[ia (M.getD (k + q) it0), ia (M.getD (k + p) it0)] ++ cp) W fun e w' => e = .returned (.bool (decide (c (M.getD (k + q) it0) (M.getD (k + p) it0) = 0))) ∧ (w'.cell? ⟨g, k * 3 + q * 3, none⟩ = some (.string (M.getD (k + q) it0).line) ∧ w'.cell? ⟨g, k * 3 + q * 3 + 1, none⟩ = some (.string (M.getD (k + q) it0).key) ∧ w'.cell? ⟨g, k * 3 + q * 3 + 2, none⟩ = some (.int .i64 (M.getD (k + q) it0).place) ∧ w'.cell? ⟨g, k * 3 + p * 3, none⟩ = some (.string (M.getD (k + p) it0).line) ∧ w'.cell? ⟨g, k * 3 + p * 3 + 1, none⟩ = some (.string (M.getD (k + p) it0).key) ∧ w'.cell? ⟨g, k * 3 + p * 3 + 2, none⟩ = some (.int .i64 (M.getD (k + p) it0).place) ∧ Hid (Row3 g cap w' (cmpt c M (k + q)) ∧ Kp (fun k => k = g) w w'))) := fun W h =>
                (unhide CX W (k + q) (k + p) (unhide h.2.2.2.2.2.2).2 hql (by omega)).mono fun e w' r => ⟨r.1, hAA w' ⟨(unhide h.2.2.2.2.2.2).1.keep (r.2.block _ (unhide h.2.2.2.2.2.2).1.lt), (unhide h.2.2.2.2.2.2).2.step r.2⟩⟩
              have H := hAA wr.drew ⟨(unhide hRK).1.drew, (unhide hRK).2.drew⟩
              have hcm : Hid (c (M.getD (k + q) it0) (M.getD (k + p) it0) = 0 ↔ c (M.getD (k + q - 1) it0) (M.getD (k + q) it0) = 0) := by
                show _ ↔ _
                rw [show k + q - 1 = k + p by omega, (unhide HG).tn (M.getD (k + p) it0) (M.getD (k + q) it0)]; omega
              clear hAA hRK
              unfold ia at CY
              by_cases he : c (M.getD (k + q) it0) (M.getD (k + p) it0) = 0
              · rw [decide_eq_true he] at CY
                have hsm := hide (cmpt_same c M (k + q) hql (by omega) ((unhide hcm).1 he))
                clear he hcm
                generalize M.getD (k + q) it0 = a at H CY
                generalize M.getD (k + p) it0 = b at H CY
                obtain ⟨al, ak, ap⟩ := a
                obtain ⟨bl, bk, bp⟩ := b
                simp only at H CY
                go_wp2_with fail
                go_region_held3 (fun w' => w'.cell? ⟨g, k * 3 + q * 3, none⟩ = some (.string al) ∧ w'.cell? ⟨g, k * 3 + q * 3 + 1, none⟩ = some (.string ak) ∧ w'.cell? ⟨g, k * 3 + q * 3 + 2, none⟩ = some (.int .i64 ap) ∧ w'.cell? ⟨g, k * 3 + p * 3, none⟩ = some (.string bl) ∧ w'.cell? ⟨g, k * 3 + p * 3 + 1, none⟩ = some (.string bk) ∧ w'.cell? ⟨g, k * 3 + p * 3 + 2, none⟩ = some (.int .i64 bp) ∧ Hid (Row3 g cap w' (cmpt c M (k + q)) ∧ Kp (fun k => k = g) w w')) (first | assumption | go_keep)
                  (with_reducible refine (unhide CY _ (by assumption)).mono ?_; rintro e w' ⟨rfl, hS1⟩)
                have hRK := hS1.2.2.2.2.2.2
                clear hS1 H CY
                go_wp2_with fail
                go_roundw
                case rel => exact ⟨u, q + 1, by omega, by omega, by omega, rfl, by go_num, by rw [← Nat.add_assoc, (unhide hsm).2]; exact hu, by rw [← Nat.add_assoc, (unhide hsm).1]; exact hRK⟩
                case measure => simp [intOf]; omega
              · rw [decide_eq_false he] at CY
                have hsm := hide (cmpt_step c M (k + q) hql (by omega) (fun e => he ((unhide hcm).2 e)))
                clear he hcm
                have hul : u < M.length := by omega
                have hcl : Hid (u < (cmpt c M (k + q)).length) := by show u < _; rw [cmpt_len c M _ hqn]; exact hul
                obtain ⟨x, hx⟩ : ∃ x, x = M.getD (k + q) it0 := ⟨_, rfl⟩
                rw [← hx] at H CY hsm
                clear hx
                generalize M.getD (k + p) it0 = b at H CY
                obtain ⟨al, ak, ap⟩ := x
                obtain ⟨bl, bk, bp⟩ := b
                simp only at H CY
                go_wp2_with fail
                go_region_held3 (fun w' => w'.cell? ⟨g, k * 3 + q * 3, none⟩ = some (.string al) ∧ w'.cell? ⟨g, k * 3 + q * 3 + 1, none⟩ = some (.string ak) ∧ w'.cell? ⟨g, k * 3 + q * 3 + 2, none⟩ = some (.int .i64 ap) ∧ w'.cell? ⟨g, k * 3 + p * 3, none⟩ = some (.string bl) ∧ w'.cell? ⟨g, k * 3 + p * 3 + 1, none⟩ = some (.string bk) ∧ w'.cell? ⟨g, k * 3 + p * 3 + 2, none⟩ = some (.int .i64 bp) ∧ Hid (Row3 g cap w' (cmpt c M (k + q)) ∧ Kp (fun k => k = g) w w')) (first | assumption | go_keep)
                  (with_reducible refine (unhide CY _ (by assumption)).mono ?_; rintro e w' ⟨rfl, hS1⟩)
                have hRK := hS1.2.2.2.2.2.2
                obtain ⟨t0, t1, t2, -, -, -, -⟩ := hS1
                obtain ⟨d0, d1, d2⟩ := (unhide hRK).1.cells (unhide hcl)
                have f0 := (unhide hRK).1.frozen (u * 3)
                have f1 := (unhide hRK).1.frozen (u * 3 + 1)
                have f2 := (unhide hRK).1.frozen (u * 3 + 2)
                have hR2 := hide ((unhide hRK).1.set (unhide hcl) ⟨al, ak, ap⟩)
                have hK2 := hide ((((unhide hRK).2.set1 (u * 3) (.string al)).set1 (u * 3 + 1) (.string ak)).set1 (u * 3 + 2) (.int .i64 ap))
                rw [unhide hu, (unhide hsm).1, ← unhide hu] at hR2
                simp only at hR2
                clear H CY hRK hcl
                go_wp2_with fail
                go_roundw
                case rel => exact ⟨u + 1, q + 1, by omega, by omega, by omega, by go_num, by go_num, by rw [← Nat.add_assoc, (unhide hsm).2, ← unhide hu]; exact rfl, by rw [← Nat.add_assoc]; exact ⟨unhide hR2, unhide hK2⟩⟩
                case measure => simp [intOf]; omega
            · have hkq : k + q = M.length := by omega
              rw [hkq, List.take_length] at hu
              rw [hkq] at hRK
              have hUl : Hid (U.length = u ∧ (cmpt c M M.length).take u = U) := by
                have e := unhide HU
                refine ⟨by rw [e]; exact (unhide hu).symm, ?_⟩
                have hu' := unhide hu
                unfold cmpt
                rw [List.take_length, hu', List.take_left]; exact e.symm
              have hUu : u ≤ M.length := by omega
              have hql' : ¬ (q : Int) < ((M.length - k : Nat) : Int) := by omega
              have hql2 : ¬ q < M.length - k := by omega
              have hul : u < M.length := by omega
              have hcu : ¬ cap = u := by omega
              have hcl : Hid (∃ vs, ∀ ty, (Builtin.clear_ #[61] ty #[.slice (some ⟨g, u * 3, none⟩) (M.length - u) (cap - u)]).run Tryz.prog wr = .ok (.tuple #[]) (wr.setCells g (u * 3) vs)) := by
                have hq : ∀ j, j < (M.length - u) * 3 → (wr.cell? ⟨g, u * 3 + j, none⟩).isSome = true := fun j hj => by
                  obtain ⟨cur, r1, r2, r3, _⟩ := (unhide hRK).1
                  rw [cell_of_row _ _ _ _ _ _ r1, Array.getElem?_eq_getElem (by rw [cmpt_len c M _ (Nat.le_refl _)] at r3; omega)]; rfl
                obtain ⟨vs, hvs⟩ := run_clear3 (P := Tryz.prog) wr 61 66 0 _ _ _ _ Tryz.underlying61 Tryz.zeroItem rfl ⟨rfl, rfl, rfl⟩ g (u * 3) (M.length - u) (cap - u) (by omega) hq (fun j _ => (unhide hRK).1.frozen _)
                exact ⟨vs, fun _ => hvs⟩
              obtain ⟨vs, hvs⟩ := unhide hcl
              have hE : Hid (Row3 g cap (wr.setCells g (u * 3) vs) U ∧ Kp (fun k => k = g) w (wr.setCells g (u * 3) vs)) := by
                refine ⟨?_, Kp.out vs _ _ (unhide hRK).2⟩
                rw [← (unhide hUl).2]
                refine Row3.out vs _ _ ((unhide hRK).1.take u (by rw [cmpt_len c M _ (Nat.le_refl _)]; omega)) (by rw [List.length_take, cmpt_len c M _ (Nat.le_refl _)]; exact Nat.mul_le_mul_right 3 (Nat.min_le_left _ _))
              generalize wr.setCells g (u * 3) vs = w9 at *
              clear hu huq hcl hRK
              go_wp2_with fail
              go_ret
              exact ⟨by rw [(unhide hUl).1]; rfl, hE⟩
        · rw [decide_eq_false he] at CY
          have hA2 : Hid (∀ j, 0 < j → j < k + 1 → ¬ c (M.getD (j - 1) it0) (M.getD j it0) = 0) := fun j h1 h2 => by
            by_cases e : j = k
            · subst e; exact fun q => he ((unhide hcm).2 q)
            · exact unhide hA j h1 (by omega)
          clear he hcm hA
          generalize M.getD k it0 = a at H CY
          generalize M.getD m it0 = b at H CY
          obtain ⟨al, ak, ap⟩ := a
          obtain ⟨bl, bk, bp⟩ := b
          simp only at H CY
          go_wp2_with fail
          go_region_held3 (fun w' => w'.cell? ⟨g, k * 3, none⟩ = some (.string al) ∧ w'.cell? ⟨g, k * 3 + 1, none⟩ = some (.string ak) ∧ w'.cell? ⟨g, k * 3 + 2, none⟩ = some (.int .i64 ap) ∧ w'.cell? ⟨g, m * 3, none⟩ = some (.string bl) ∧ w'.cell? ⟨g, m * 3 + 1, none⟩ = some (.string bk) ∧ w'.cell? ⟨g, m * 3 + 2, none⟩ = some (.int .i64 bp) ∧ Hid (Row3 g cap w' M ∧ Kp (fun k => k = g) w w')) (first | assumption | go_keep)
            (with_reducible refine (unhide CY _ (by assumption)).mono ?_; rintro e w' ⟨rfl, hS1⟩)
          have hRK := hS1.2.2.2.2.2.2
          clear hS1 H CY
          go_wp2_with fail
          go_roundw
          case rel => exact ⟨k + 1, by omega, by omega, by go_num, hA2, (unhide hRK).1, (unhide hRK).2⟩
          case measure => simp [intOf]; omega
      · have hE : Hid (U = M) := by
          show U = M
          rw [unhide HU]
          have q := uq_take_all c M M.length (Nat.le_refl _) (fun j h1 h2 => unhide hA j h1 (by omega))
          rw [List.take_length] at q
          exact q
        clear hA HU
        go_wp2_with fail
        go_ret
        exact ⟨by rw [unhide hE]; rfl, by rw [unhide hE]; exact ⟨unhide hR, unhide hK⟩⟩

set_option maxRecDepth 100000 in
set_option maxHeartbeats 400000 in
theorem firstOfAlike_any (M : List It) (g cap : Nat) (f : Value) (c : It → It → Int) (w : World) (hG : Ky.Good c) (hC : Cmp w (fun k => k = g) f c DI) (hR : Row3 g cap w M) (hl : M.length ≤ 65536) (hD : ∀ x ∈ M, DI x) :
    Calls Tryz.prog 73 #[.slice (some ⟨g, 0, none⟩) M.length cap, f] w fun e w' => e = .returned (.slice (some ⟨g, 0, none⟩) (uq c M).length cap) ∧ Hid (Row3 g cap w' (uq c M) ∧ Kp (fun k => k = g) w w') := by
  have hmf : ∀ (fn : Fn) (first cap : Array Value) (w : World), (Instr.makeFunc fn first cap).run Tryz.prog w = .ok (.func fn first cap) w := fun _ _ _ _ => rfl
  have hgl := hR.lt
  have hK : Kp (fun k => k = g) w (w.alloc (.cells #[f] 68)) := (Kp.refl _ _).alloc _
  have hE : Eqf (w.alloc (.cells #[f] 68)) (fun k => k = g) (.func (.func 118) #[] #[.pointer (some ⟨w.heap.size, 0, none⟩)]) (fun a b => decide (c a b = 0)) DI :=
    ⟨_, _, rfl, enters_of Tryz.func118 (by kernel_rfl) rfl, fun W' h a b ha hb => alike1_any hC w.heap.size a b W' (hK.trans h (fun _ _ q => q) (fun _ _ q => q)) (cell_of_row _ _ _ _ _ _ ((h.block w.heap.size (by simp) (by omega)).trans (heap_alloc_new w _))) ha hb⟩
  have C := hide (compact_any M g cap _ c _ hG hE (hR.keep (Below.heap_alloc _ _ _ hgl)) hl hD)
  obtain ⟨id, cp, rfl, -, -⟩ := hC
  have HK := hide hK
  clear hE hG hR hD hK
  go_enter Tryz.func73, Tryz.ntmps73
  go_wp2_with fail
  refine (unhide C).mono ?_
  rintro e w1 ⟨rfl, q1⟩
  have hQ : Hid (Hid (Row3 g cap w1 (uq c M) ∧ Kp (fun k => k = g) w w1)) := ⟨(unhide q1).1, (unhide HK).trans (unhide q1).2 (fun _ _ q => q) (fun _ _ q => q)⟩
  clear q1 C HK
  go_wp2_with fail
  go_ret
  exact ⟨rfl, unhide hQ⟩
end Go.Proofs.YtmpppdbomdepoaaGreatDoor.So
