import Derived.Test.YtidhceebafmlkaaGreatDoorCaInsert
import Derived.Deep.RegionLaw
import Derived.Shelf.Small.Strs
import Derived.Shelf.Strconv.Itoa0
import Derived.Test.YtidhceebafmlkaaGreatDoorProg
import Derived.Test.YtidhceebafmlkaaGreatDoorTrGreat
namespace Go.Proofs.YtidhceebafmlkaaGreatDoor.Ca
open Go.RowKit Cu Tr
def delE (es : List En) (i : Nat) : List En := es.take i ++ es.drop (i + 1)
theorem delE_length (es : List En) (i p : Nat) (hp : es.length = p + 1) (h : i ≤ p) : (delE es i).length = p := by simp [delE]; omega
theorem out_of {C Z : List Value} {es : List En} {p c i : Nat} (hne : es.length = p + 1) (hz : Z.length = 2) (hl : C.length = c * 2) (ht : C.take ((p + 1) * 2) = entCells es) (hi : i ≤ p) (hc : p + 1 ≤ c) :
    let X1 := C.take (i * 2) ++ entCells (es.drop (i + 1)) ++ C.drop (i * 2 + (entCells (es.drop (i + 1))).length)
    let X2 := X1.take (p * 2) ++ Z ++ X1.drop (p * 2 + Z.length)
    X1.length = c * 2 ∧ X2.length = c * 2 ∧ X2.take (p * 2) = entCells (delE es i) := by
  have hd : (entCells (es.drop (i + 1))).length = (p - i) * 2 := by rw [entCells_length, List.length_drop, hne]; omega
  have hti : C.take (i * 2) = entCells (es.take i) := by rw [entCells_take, ← ht, List.take_take, Nat.min_eq_left (by omega)]
  have htil : (entCells (es.take i)).length = i * 2 := by rw [entCells_length, List.length_take, hne]; omega
  intro X1 X2
  have hX1 : X1 = entCells (delE es i) ++ C.drop (i * 2 + (p - i) * 2) := by
    show C.take (i * 2) ++ entCells (es.drop (i + 1)) ++ C.drop (i * 2 + (entCells (es.drop (i + 1))).length) = _
    rw [hti, hd, delE, entCells_app]
  have hdl : (entCells (delE es i)).length = p * 2 := by rw [entCells_length, delE_length es i p hne hi]
  have hl1 : X1.length = c * 2 := by rw [hX1, List.length_append, hdl, List.length_drop, hl]; omega
  have e1 : X1.take (p * 2) = entCells (delE es i) := by rw [hX1, ← hdl, List.take_left]
  refine ⟨hl1, ?_, ?_⟩
  · show (X1.take (p * 2) ++ Z ++ X1.drop (p * 2 + Z.length)).length = _
    rw [e1]
    simp only [List.length_append, hdl, hz, List.length_drop, hl1]; omega
  · show (X1.take (p * 2) ++ Z ++ X1.drop (p * 2 + Z.length)).take (p * 2) = _
    rw [e1, List.append_assoc, ← hdl, List.take_left]
theorem step_appendR {P : Program} {ops : Array Oper} {o : Oper} {a : Act} {w : World} {K : Act → World → Prop} {Q : Exit → Act → World → Prop} {E : Prop} (hg : o.guard = none) (d x : Operand) (dT sT : TypeId) (hop : o.op = .call { callee := .builtin .append, args := #[d, x], argTypes := #[dT, sT] })
    (v u : Value) (hd : a.eval d = v) (hx : a.eval x = u) {v' : Value} {w' : World} (hr : (Builtin.append_ #[dT, sT] o.type #[v, u]).run P w = .ok v' w') (hK : K (a.put o.dst v') w') : if Region.wanted o (yielded ops a.tmps) = true then Oper.wp P o a w K Q else E := by
  have hw : Region.wanted o (yielded ops a.tmps) = true := by simp [Region.wanted, hg]
  rw [if_pos hw]
  unfold Oper.wp
  simp [execOp, hop, resolve, invoke, builtin, hd, hx, hr, Result.andThen]
  exact hK
abbrev zE : List Value := [.string ⟨#[]⟩, .int .i64 0]
theorem run_clear_one (w : World) (g p c cc : Nat) (ty : TypeId) (X : List Value) (hg : w.heap[g]? = some (.cells X.toArray 116 (0, 0))) (hl : X.length = c * 2) (hc : p + 1 ≤ c) :
    (Builtin.clear_ #[80] ty #[.slice (some ⟨g, p * 2, none⟩) 1 cc]).run Tryz.prog w = .ok (.tuple #[]) (w.setRow g (X.take (p * 2) ++ zE ++ X.drop (p * 2 + zE.length)).toArray) := by
  have hst := run_storeCells_at Tryz.prog g (p * 2) 116 zE 0 X.toArray w hg (by simp; omega) (fun u hu => by
    simp only [zE, List.mem_cons, List.not_mem_nil, or_false] at hu
    rcases hu with rfl | rfl <;> rfl)
  have hz : (Builtin.zeroCells (Value.agg #[.string ⟨#[]⟩, .int .i64 0]).cells 1).toList = zE := by kernel_rfl
  have hv : (zeroValue 116).run Tryz.prog w = .ok (.agg #[.string ⟨#[]⟩, .int .i64 0]) w := Tryz.zeroValue116 w
  simp only [Nat.add_zero] at hst
  simp [Builtin.clear_, run_underlying Tryz.underlying80, hv, hz, hst]
set_option maxRecDepth 100000 in
set_option maxHeartbeats 1000000 in
theorem delete_any (B : Nat) (v : Value) (es : List En) (i : Nat) (w : World) (h : RowE B v es w) (hi : i < es.length) (hn : es.length ≤ 1000000) :
    Calls Tryz.prog 252 #[v, .int .i64 i, .int .i64 ((i : Int) + 1)] w fun r w' => ∃ v', r = .returned v' ∧ RowE B v' (delE es i) w' ∧ w.grownBy w' v.ownBlock ∧ v'.ownBlock = v.ownBlock := by
  obtain ⟨p, hp⟩ : ∃ p, es.length = p + 1 := ⟨es.length - 1, by omega⟩
  obtain ⟨i0, hi0, hz0, hzs, hzb⟩ := info_parts infoE
  obtain ⟨g, c, C, rfl, hB, hg, hle, hc63, hCl, hCt⟩ : ∃ (g c : Nat) (C : List Value), v = .slice (some ⟨g, 0, none⟩) (p + 1) c ∧ B ≤ g ∧ w.heap[g]? = some (.cells C.toArray 116 (0, 0)) ∧ p + 1 ≤ c ∧ c ≤ maxLen ∧ C.length = c * 2 ∧ C.take ((p + 1) * 2) = entCells es := by
    rcases h.2 with ⟨_, hq⟩ | ⟨g, c, cur, hq, h1, h2, h5, hm, h3, h4⟩
    · omega
    · rw [hp] at hq h4 h5
      exact ⟨g, c, cur.toList, hq, h1, by simpa using h2, h5, hm, by simpa using h3, h4⟩
  rw [hp] at hi hn
  have hc64 : c ≤ 9223372036854775807 := by unfold maxLen at hc63; omega
  obtain ⟨hX1, hX2, hX3⟩ := out_of (Z := zE) hp rfl hCl hCt (show i ≤ p by omega) hle
  have hdl : (entCells (es.drop (i + 1))).length = (p - i) * 2 := by rw [entCells_length, List.length_drop, hp]; omega
  have hcs : ∀ j u, (entCells (es.drop (i + 1)))[j]? = some u → w.cell? ⟨g, (i + 1) * 2 + j, none⟩ = some u := fun j u hj => by
    rw [cell_of_row _ _ _ _ _ _ hg]
    rw [entCells_drop, List.getElem?_drop, ← hCt, List.getElem?_take] at hj
    split at hj
    · simpa using hj
    · cases hj
  obtain ⟨Y, hY⟩ : ∃ Y, Y = entCells (es.drop (i + 1)) := ⟨_, rfl⟩
  rw [← hY] at hX1 hX2 hX3 hdl hcs
  have hY1 : ∀ u ∈ Y, u.oneCell' = true := by rw [hY]; exact entCells_one _
  obtain ⟨X1, hX1e⟩ : ∃ X1, X1 = C.take (i * 2) ++ Y ++ C.drop (i * 2 + Y.length) := ⟨_, rfl⟩
  rw [← hX1e] at hX1 hX2 hX3
  have hap : ∀ (ad : Addr) (m cc : Nat), m = p - i → (∀ j u, Y[j]? = some u → w.cell? (ad.add j) = some u) → ∀ ty, (Builtin.append_ #[80, 80] ty #[.slice (some ⟨g, 0, none⟩) i c, .slice (some ad) m cc]).run Tryz.prog w.drew = .ok (.slice (some ⟨g, 0, none⟩) p c) (w.drew.setRow g X1.toArray) := fun ad m cc hm hs ty => by
    have q := run_append_room (P := Tryz.prog) w.drew 80 ty 116 i0 Tryz.underlying80 hi0 g i c C.toArray hg ad m cc Y (by rw [hzs, hm]; exact hdl) hs hY1 (by omega) (by rw [hzs]; simp; omega)
    rw [hzs, show i + m = p by omega] at q
    rw [hX1e]
    simpa using q
  obtain ⟨W1, hW1⟩ : ∃ W1, W1 = w.drew.setRow g X1.toArray := ⟨_, rfl⟩
  rw [← hW1] at hap
  have hg1 : W1.heap[g]? = some (.cells X1.toArray 116 (0, 0)) := by rw [hW1]; exact setRow_heap w.drew g _ _ _ _ hg
  have hclr : ∀ ty cc, (Builtin.clear_ #[80] ty #[.slice (some ⟨g, p * 2, none⟩) 1 cc]).run Tryz.prog W1 = .ok (.tuple #[]) (W1.setRow g (X1.take (p * 2) ++ zE ++ X1.drop (p * 2 + zE.length)).toArray) := fun ty cc => run_clear_one W1 g p c cc ty X1 hg1 hX1 hle
  obtain ⟨X2, hX2e⟩ : ∃ X2, X2 = X1.take (p * 2) ++ zE ++ X1.drop (p * 2 + zE.length) := ⟨_, rfl⟩
  rw [← hX2e] at hX2 hX3 hclr
  have HG : Hid ((W1.setRow g X2.toArray).ownsRow B 116 2 (.slice (some ⟨g, 0, none⟩) p c) p (entCells (delE es i))) :=
    ⟨by rw [← hX3, List.length_take, hX2]; omega, .inr ⟨g, c, X2.toArray, rfl, hB, setRow_heap W1 g _ _ _ _ hg1, by omega, hc63, by simpa using hX2, by simpa using hX3⟩⟩
  have HW : Hid (w.grownBy (W1.setRow g X2.toArray) (some g)) := by
    rw [hW1]
    exact ⟨rfl, rfl, rfl, by simp [World.setRow], fun k hk hne => by
      have hkg : k ≠ g := fun q => hne (by rw [q])
      rw [setRow_other _ g k _ hkg, setRow_other _ g k _ hkg]; rfl⟩
  obtain ⟨W2, hW2⟩ : ∃ W2, W2 = W1.setRow g X2.toArray := ⟨_, rfl⟩
  rw [← hW2] at hclr HG HW
  have hL : Hid ((delE es i).length = p) := delE_length es i p hp (by omega)
  obtain ⟨I, hI⟩ : ∃ I, I = delE es i := ⟨_, rfl⟩
  rw [← hI] at HG hL ⊢
  have hz1' : ¬ ((i : Int) = (i : Int) + 1) := by omega
  by_cases hcap : c = i + 1
  · have hpi : p = i := by omega
    subst hpi
    have hY0 : Y = [] := List.eq_nil_of_length_eq_zero (by rw [hdl]; omega)
    have hap1 := hap ⟨g, 0, none⟩ 0 0 (by omega) (by rw [hY0]; simp)
    have hXC : X1 = C := by rw [hX1e, hY0]; simp
    have hWe : W1 = w.drew := by rw [hW1, hXC]; exact setRow_self w.drew g C.toArray _ _ hg
    rw [hWe] at hclr hap1
    clear h hg hCl hCt hX1 hX2 hX3 hdl hcs hY hY1 hX1e hap hW1 hg1 hX2e hW2 hI hp hi0 hz0 hzs hzb hY0 hle hXC hWe
    subst hcap
    go_enter Tryz.func252, Tryz.ntmps252
    go_upto_region 5 with fail
    go_region
    go_wp2
    go_ret
    refine ⟨_, rfl, ?_, uh HW, rfl⟩
    show World.ownsRow _ _ _ _ _ _ _
    rw [uh hL]
    exact uh HG
  · have hap1 : ∀ ty cc, (Builtin.append_ #[80, 80] ty #[.slice (some ⟨g, 0, none⟩) i c, .slice (some ⟨g, (i + 1) * 2, none⟩) (p - i) cc]).run Tryz.prog w.drew = .ok (.slice (some ⟨g, 0, none⟩) p c) W1 := fun ty cc => hap ⟨g, (i + 1) * 2, none⟩ (p - i) cc rfl (fun j u hj => by rw [add_none]; exact hcs j u hj) ty
    clear h hg hCl hCt hX1 hX2 hX3 hdl hcs hY hY1 hX1e hap hW1 hg1 hX2e hW2 hI hp hi0 hz0 hzs hzb
    have hic : i ≤ c := by omega
    have htn : ((i : Int) + 1).toNat = i + 1 := by omega
    have hb1 : (0 : Int) ≤ (i : Int) + 1 := by omega
    have hb2 : (i : Int) ≤ (p : Int) := by omega
    go_enter Tryz.func252, Tryz.ntmps252
    go_upto_region 5 with fail
    go_region_law (refine step_appendR rfl (.tmp 22) (.tmp 25) 80 80 rfl (.slice (some ⟨g, 0, none⟩) i c) (.slice (some ⟨g, (i + 1) * 2, none⟩) (p - i) (c - (i + 1))) (by rfl) (by rfl) (hap1 _ _) ?_)
    go_wp2
    go_ret
    refine ⟨_, rfl, ?_, uh HW, rfl⟩
    show World.ownsRow _ _ _ _ _ _ _
    rw [uh hL]
    exact uh HG
end Go.Proofs.YtidhceebafmlkaaGreatDoor.Ca

namespace Go.Proofs
open Go.Shelf
def Tryz.lays106_ren : Go.Shelf.Ren := ⟨fun | 106 => 115 | 213 => 179 | 265 => 234 | n => n, fun | 9 => 9 | 3 => 3 | n => n, fun | n => n⟩
theorem Tryz.lays106 : Go.Proofs.Lays.n106 Tryz.prog Tryz.lays106_ren := {
  mixed := by kernel_rfl
  f106 := Tryz.func115.trans (congrArg some (by kernel_rfl))
  f213 := Tryz.func179.trans (congrArg some (by kernel_rfl))
  f265 := Tryz.func234.trans (congrArg some (by kernel_rfl))
  t3 := Tryz.underlying3
  a3 := Tryz.isAgg3
  z3 := Tryz.sizeOf3
  v3 := Tryz.zeroValue3
  t9 := Tryz.underlying9
  a9 := Tryz.isAgg9
  z9 := Tryz.sizeOf9
  v9 := Tryz.zeroValue9 }
open Go.RowKit in
theorem Tryz.strings_Compare (a b : ByteArray) (w : World) :
    Calls Tryz.prog 115 #[.string a, .string b] w fun e w' => e = .returned (.int .i64 (Lib.compareBytes a.data.toList b.data.toList)) ∧ w' = w := Any.strings_Compare Tryz.lays106 a b w
end Go.Proofs

namespace Go.Proofs.YtidhceebafmlkaaGreatDoor.Tr
open Go.RowKit Cu
theorem less_lt : ∀ a b : Bs, Op.bytesLess a b = true ↔ a < b
  | [], [] => by simp [Op.bytesLess]
  | [], _ :: _ => by simp [Op.bytesLess]
  | _ :: _, [] => by simp [Op.bytesLess]
  | a :: s, b :: t => by
    rw [Op.bytesLess, List.cons_lt_cons_iff, Bool.or_eq_true, Bool.and_eq_true, decide_eq_true_eq, less_lt s t]
    simp
theorem cmp_lt : ∀ a b : Bs, Lib.compareBytes a b < 0 ↔ a < b
  | [], [] => by simp [Lib.compareBytes]
  | [], _ :: _ => by simp [Lib.compareBytes]
  | _ :: _, [] => by simp [Lib.compareBytes]
  | a :: s, b :: t => by
    rw [Lib.compareBytes, List.cons_lt_cons_iff]
    by_cases h1 : a < b
    · simp [h1]
    · by_cases h2 : b < a
      · rw [if_neg h1, if_pos h2]
        refine ⟨fun h => by omega, fun h => ?_⟩
        rcases h with h | ⟨h, _⟩
        · exact absurd h h1
        · subst h; exact absurd h2 h1
      · rw [if_neg h1, if_neg h2, cmp_lt s t]
        have he : a = b := by
          rw [UInt8.lt_iff_toNat_lt] at h1 h2
          exact UInt8.toNat_inj.1 (by omega)
        subst he
        simp [h1]
theorem cmp_eq : ∀ a b : Bs, Lib.compareBytes a b = 0 ↔ a = b
  | [], [] => by simp [Lib.compareBytes]
  | [], _ :: _ => by simp [Lib.compareBytes]
  | _ :: _, [] => by simp [Lib.compareBytes]
  | a :: s, b :: t => by
    rw [Lib.compareBytes]
    by_cases h1 : a < b
    · rw [if_pos h1]
      refine ⟨fun h => by omega, fun h => ?_⟩
      injection h with h _
      subst h
      rw [UInt8.lt_iff_toNat_lt] at h1; omega
    · by_cases h2 : b < a
      · rw [if_neg h1, if_pos h2]
        refine ⟨fun h => by omega, fun h => ?_⟩
        injection h with h _
        subst h
        exact absurd h2 h1
      · rw [if_neg h1, if_neg h2, cmp_eq s t]
        have he : a = b := by
          rw [UInt8.lt_iff_toNat_lt] at h1 h2
          exact UInt8.toNat_inj.1 (by omega)
        subst he
        simp
theorem u8_lt_trans {a b c : UInt8} (h : a < b) (h' : b < c) : a < c := by
  rw [UInt8.lt_iff_toNat_lt] at *; omega
theorem bs_lt_trans : ∀ {a b c : Bs}, a < b → b < c → a < c
  | [], [], _, h, _ => by simp at h
  | [], _ :: _, [], _, h => by simp at h
  | [], _ :: _, _ :: _, _, _ => by simp
  | _ :: _, [], _, h, _ => by simp at h
  | _ :: _, _ :: _, [], _, h => by simp at h
  | a :: s, b :: t, c :: u, h, h' => by
    rw [List.cons_lt_cons_iff] at *
    rcases h with h | ⟨rfl, h⟩
    · rcases h' with h' | ⟨rfl, h'⟩
      · exact .inl (u8_lt_trans h h')
      · exact .inl h
    · rcases h' with h' | ⟨rfl, h'⟩
      · exact .inl h'
      · exact .inr ⟨rfl, bs_lt_trans h h'⟩
theorem ltB_iff (a b : ByteArray) : ltB a b = true ↔ bs a < bs b := by
  unfold ltB
  rw [less_lt, ByteArray.toList_eq, ByteArray.toList_eq]
def Rises (es : List En) : Prop := ∀ i j, i < j → j < es.length → bs (en es i).name < bs (en es j).name
theorem rises_of {es : List En} (h : listP es = true) : Rises es := by
  unfold listP at h
  simp only [Bool.and_eq_true, decide_eq_true_eq] at h
  have hk := allTo_true.1 h.2
  intro i j hij
  obtain ⟨d, rfl⟩ : ∃ d, j = i + 1 + d := ⟨j - (i + 1), by omega⟩
  clear hij
  induction d with
  | zero =>
    intro hj
    have := hk (i + 1) hj
    unfold okE at this
    simp only [Bool.and_eq_true, Bool.or_eq_true, decide_eq_true_eq] at this
    rcases this.2 with h0 | h0
    · omega
    · exact (ltB_iff _ _).1 h0
  | succ d ih =>
    intro hj
    have h1 := ih (by omega)
    have := hk (i + 1 + (d + 1)) hj
    unfold okE at this
    simp only [Bool.and_eq_true, Bool.or_eq_true, decide_eq_true_eq] at this
    rcases this.2 with h0 | h0
    · omega
    · exact bs_lt_trans h1 ((ltB_iff _ _).1 h0)
def findP (es : List En) (t : ByteArray) : Int := match es.find? (fun e => decide (e.name = t)) with
  | none => 0
  | some e => e.node
theorem find_at {es : List En} {t : ByteArray} (hr : Rises es) (k : Nat) (hk : k < es.length) (h : (en es k).name = t) : findP es t = (en es k).node := by
  unfold findP
  have e1 : en es k = es[k] := by simp [en, List.getD, List.getElem?_eq_getElem hk]
  have hf : es.find? (fun e => decide (e.name = t)) = some es[k] := by
    rw [List.find?_eq_some_iff_getElem]
    refine ⟨by rw [← e1]; simp [h], k, hk, rfl, fun j hj => ?_⟩
    have e2 : en es j = es[j] := by simp [en, List.getD, List.getElem?_eq_getElem (show j < es.length by omega)]
    have := hr j k hj hk
    rw [← e2]
    simp only [Bool.not_eq_true', decide_eq_false_iff_not]
    intro e
    rw [e, h] at this
    exact List.lt_irrefl _ this
  rw [hf, e1]
theorem find_no {es : List En} {t : ByteArray} (h : ∀ k, k < es.length → (en es k).name ≠ t) : findP es t = 0 := by
  unfold findP
  have hf : es.find? (fun e => decide (e.name = t)) = none := by
    rw [List.find?_eq_none]
    intro e he
    obtain ⟨k, hk, rfl⟩ := List.getElem_of_mem he
    have e1 : en es k = es[k] := by simp [en, List.getD, List.getElem?_eq_getElem hk]
    have := h k hk
    rw [e1] at this
    simp [this]
  rw [hf]
abbrev fnF : Value := .func (.func 114) #[] #[]
set_option maxRecDepth 100000 in
set_option maxHeartbeats 400000 in
theorem cmp1_any (nm : ByteArray) (no : Int) (t : ByteArray) (w : World) : Calls Tryz.prog 114 #[.agg #[.string nm, .int .i64 no], .string t] w fun e w' => e = .returned (.int .i64 (Lib.compareBytes (bs nm) (bs t))) ∧ Below w.heap.size w w' := by
  have HC := hide (Tryz.strings_Compare nm t)
  generalize Lib.compareBytes nm.data.toList t.data.toList = c at *
  have hb0 : Hid (Below w.heap.size w (w.alloc (.cells #[.string nm, .int .i64 no] 116))) := (Below.refl _ _).alloc (Nat.le_refl _) _
  go_enter Tryz.func114, Tryz.ntmps114
  go_wp2_with (go_at_call 115; refine (uh HC _).mono ?_; rintro e w' ⟨rfl, rfl⟩)
  go_ret
  exact ⟨rfl, uh hb0⟩
set_option maxRecDepth 100000 in
set_option maxHeartbeats 1000000 in
theorem search_any (a : Option Addr) (n cap : Nat) (es : List En) (t : ByteArray) (w : World) (h : Eg w a n cap es) (hr : Rises es) (hn : n ≤ 1000000) :
    Calls Tryz.prog 113 #[.slice a n cap, .string t, fnF] w fun e w' => Below w.heap.size w w' ∧
      ((∃ k : Nat, k < n ∧ e = .returned (.tuple #[.int .i64 k, .bool true]) ∧ (en es k).name = t) ∨ (∃ k : Nat, k ≤ n ∧ e = .returned (.tuple #[.int .i64 k, .bool false]) ∧ ∀ j, j < n → (en es j).name ≠ t)) := by
  rcases h.cells with rfl | ⟨b, off, rfl, hb, hc⟩
  · go_enter Tryz.func113, Tryz.ntmps113
    go_wp2
    refine wp_loop_rounds 1 ?_
    rw [rounds_succ]
    go_wp2
    go_ret2
    exact ⟨Below.refl _ _, .inr ⟨0, Nat.le_refl _, rfl, fun j hj => by omega⟩⟩
  have HC := hide hc
  have HR : Hid (∀ i j, i < j → j < n → bs (en es i).name < bs (en es j).name) := fun i j h1 h2 => hr i j h1 (by rw [h.len]; exact h2)
  have HF := hide cmp1_any
  clear hc h hr
  go_enter Tryz.func113, Tryz.ntmps113
  go_wp2
  go_loopw [9, 10] (fun x y wr => ∃ i j : Nat, i ≤ j ∧ j ≤ n ∧ x = .int .i64 i ∧ y = .int .i64 j ∧ Hid (∀ k, k < i → bs (en es k).name < bs t) ∧ Hid (∀ k, j ≤ k → k < n → ¬ bs (en es k).name < bs t) ∧ Hid (Below w.heap.size w wr)) (fun x y _ => (intOf y).toNat - (intOf x).toNat)
  case atStart => exact ⟨0, n, Nat.zero_le _, Nat.le_refl _, rfl, rfl, fun k hk => by omega, fun k h1 h2 => by omega, Below.refl _ _⟩
  case round =>
    obtain ⟨i, j, hij, hjn, rfl, rfl, hlo, hhi, hnx⟩ := hrel
    have hsz := (uh hnx).size
    by_cases hlt : i < j
    · have hlt' : (i : Int) < (j : Int) := by omega
      obtain ⟨m, hm⟩ : ∃ m, m = (i + j) / 2 := ⟨_, rfl⟩
      have hmn : m < n := by omega
      have he := (uh HC m hmn).of fun o => (uh hnx).cell (p := ⟨b, o, none⟩) hb
      have e0 := he.c0
      have e1 := he.c1
      have hmj : Hid (i ≤ m ∧ m < j) := hide ⟨by omega, by omega⟩
      have hdiv : ((i : Int) + (j : Int)) / 2 = (m : Int) := by omega
      clear he hm
      go_upto_region 5 with fail
      clear hdiv
      have hHm : Hid (∀ k, k < m → bs (en es k).name < bs (en es m).name) := fun k hk => uh HR k m hk hmn
      have hHn : Hid (∀ k, m < k → k < n → bs (en es m).name < bs (en es k).name) := fun k hk hkn => uh HR m k hk hkn
      obtain ⟨nm, hnm⟩ : ∃ x, x = (en es m).name := ⟨_, rfl⟩
      obtain ⟨no, hno⟩ : ∃ x, x = (en es m).node := ⟨_, rfl⟩
      rw [← hnm] at e0 hHm hHn
      rw [← hno] at e1
      have HF1 := hide (uh HF nm no t wr)
      have hcl := cmp_lt (bs nm) (bs t)
      generalize Lib.compareBytes (bs nm) (bs t) = c at *
      have HNM := hide hnm
      clear hno hnm
      go_wp2_with fail
      refine (uh HF1).mono ?_
      rintro e w1 ⟨rfl, b1⟩
      have hB1 := hide ((uh hnx).trans (b1.mono hsz))
      clear b1 HF1 e0 e1
      by_cases hc0 : c < 0
      · have hlt2 := hide (hcl.1 hc0)
        clear hcl
        go_wp2
        go_roundw
        case rel =>
          refine ⟨m + 1, j, by have := uh hmj; omega, hjn, by go_num, rfl, fun k hk => ?_, hhi, hB1⟩
          by_cases ek : k = m
          · subst ek; rw [← uh HNM]; exact uh hlt2
          · exact bs_lt_trans (uh hHm k (by omega)) (uh hlt2)
        case measure => have := uh hmj; simp [intOf]; omega
      · have hge2 : Hid (¬ bs nm < bs t) := hide (fun h => hc0 (hcl.2 h))
        clear hcl
        go_wp2
        go_roundw
        case rel =>
          refine ⟨i, m, by have := uh hmj; omega, by omega, rfl, rfl, hlo, fun k hk hkn h => ?_, hB1⟩
          by_cases ek : k = m
          · subst ek; rw [← uh HNM] at h; exact uh hge2 h
          · exact uh hge2 (bs_lt_trans (uh hHn k (by omega) hkn) h)
        case measure => have := uh hmj; simp [intOf]; omega
    · obtain rfl : i = j := by omega
      by_cases hin : i < n
      · have hin' : (i : Int) < (n : Int) := by omega
        have he := (uh HC i hin).of fun o => (uh hnx).cell (p := ⟨b, o, none⟩) hb
        have e0 := he.c0
        have e1 := he.c1
        clear he
        have hge := hide (uh hhi i (Nat.le_refl _) hin)
        have hHn : Hid (∀ k, i < k → k < n → bs (en es i).name < bs (en es k).name) := fun k hk hkn => uh HR i k hk hkn
        obtain ⟨nm, hnm⟩ : ∃ x, x = (en es i).name := ⟨_, rfl⟩
        obtain ⟨no, hno⟩ : ∃ x, x = (en es i).node := ⟨_, rfl⟩
        rw [← hnm] at e0 hHn hge
        rw [← hno] at e1
        have HF1 := hide (uh HF nm no t wr)
        have hcl := cmp_eq (bs nm) (bs t)
        generalize Lib.compareBytes (bs nm) (bs t) = c at *
        have HNM := hide hnm
        clear hno hnm
        go_wp2_with fail
        refine (uh HF1).mono ?_
        rintro e w1 ⟨rfl, b1⟩
        have hB1 := hide ((uh hnx).trans (b1.mono hsz))
        clear b1 HF1 e0 e1
        by_cases hc0 : c = 0
        · have heq : nm = t := ba_ext (hcl.1 hc0)
          subst hc0
          have HEQ := hide heq
          clear heq hcl
          go_wp2
          go_ret2
          exact ⟨uh hB1, .inl ⟨i, hin, rfl, by rw [← uh HNM]; exact uh HEQ⟩⟩
        · have hne : Hid (nm ≠ t) := hide (fun e => hc0 (hcl.2 (by rw [e])))
          have hc1 : (c == 0) = false := by simp [hc0]
          clear hcl hc0
          go_wp2
          go_ret2
          refine ⟨uh hB1, .inr ⟨i, by omega, rfl, fun k hk e => ?_⟩⟩
          by_cases h1 : k < i
          · have := uh hlo k h1
            rw [e] at this; exact List.lt_irrefl _ this
          · by_cases h2 : k = i
            · subst h2; rw [← uh HNM] at e; exact uh hne e
            · have := uh hHn k (by omega) hk
              rw [e] at this
              exact uh hge this
      · have hin' : (n : Int) ≤ (i : Int) := by omega
        go_wp2
        go_ret2
        refine ⟨uh hnx, .inr ⟨i, by omega, rfl, fun k hk e => ?_⟩⟩
        have := uh hlo k (by omega)
        rw [e] at this; exact List.lt_irrefl _ this
def findV (now : Int) (ns : List Nd) (i : Int) (t : ByteArray) : Int := if isDirP now ns i then findP (nd ns i.toNat).list t else 0
theorem dir_list {now : Int} {ns : List Nd} {i : Nat} (h : isDirP now ns (i : Int) = true) : checkP now ns = true ∧ 0 < i ∧ i < ns.length ∧ (nd ns i).kind = 2 ∧ listP (nd ns i).list = true := by
  unfold isDirP nodeP at h
  simp only [Bool.and_eq_true, decide_eq_true_eq, Int.toNat_natCast] at h
  obtain ⟨⟨⟨⟨h1, h2⟩, h3⟩, h4⟩, h5⟩ := h
  refine ⟨h1, by omega, by omega, h5, ?_⟩
  unfold checkP nodesP at h1
  simp only [Bool.and_eq_true] at h1
  have := allTo_true.1 h1.1.2 i (by omega)
  unfold nodeOk kindP at this
  rw [h5] at this
  simp only [show ¬ ((2 : UInt8) = 0) by decide, show ¬ ((2 : UInt8) = 1) by decide, if_false, if_true] at this
  unfold dirP at this
  simp only [Bool.and_eq_true] at this
  exact this.1.1.2
set_option maxRecDepth 100000 in
set_option maxHeartbeats 1000000 in
theorem find_any (a : Option Addr) (n cap : Nat) (ns : List Nd) (now i : Int) (t : ByteArray) (w : World) (h : Ng w a n cap ns) (hs : Sm ns) :
    Calls Tryz.prog 44 #[.agg #[.slice a n cap, .int .i64 now], .int .i64 i, .string t] w fun e w' => e = .returned (.int .i64 (findV now ns i t)) ∧ Below w.heap.size w w' := by
  have HC : Hid (∀ W, Below w.heap.size w W → Calls Tryz.prog 112 #[.agg #[.slice a n cap, .int .i64 now], .int .i64 i] W fun e w' => e = .returned (.bool (isDirP now ns i)) ∧ Below W.heap.size W w') := fun W hW => isDir_any a n cap ns now i W (h.below hW) hs
  unfold findV
  cases hq : isDirP now ns i with
  | false =>
    rw [hq] at HC
    clear hq h hs
    simp only [Bool.false_eq_true, if_false]
    have hb0 : Hid (Below w.heap.size w (w.alloc (.cells #[.slice a n cap, .int .i64 now] 24))) := (Below.refl _ _).alloc (Nat.le_refl _) _
    go_enter Tryz.func44, Tryz.ntmps44
    go_wp2_with fail
    refine (uh HC _ (uh hb0)).mono ?_
    rintro e w1 ⟨rfl, b1⟩
    have hB := hide (box_keep b1).2.1
    clear b1 HC
    go_wp2
    go_ret
    exact ⟨rfl, uh hB⟩
  | true =>
    rw [hq] at HC
    simp only [if_true]
    have hk0 : 0 ≤ i := by
      unfold isDirP nodeP at hq
      simp only [Bool.and_eq_true, decide_eq_true_eq] at hq
      have := hq.1.1.1.2
      omega
    obtain ⟨k, rfl⟩ : ∃ k : Nat, i = (k : Int) := ⟨i.toNat, by omega⟩
    rw [Int.toNat_natCast]
    obtain ⟨-, -, hkl, -, hlp⟩ := dir_list hq
    have hkn : k < n := by rw [← h.len]; exact hkl
    have hr := rises_of hlp
    have hl512 : (nd ns k).list.length ≤ 512 := by
      unfold listP at hlp
      simp only [Bool.and_eq_true, decide_eq_true_eq] at hlp
      exact hlp.1
    rcases h.cells with h0 | ⟨b, off, rfl, hb, hc⟩
    · omega
    obtain ⟨da, dc, la, lc, h10, -, heg⟩ := hc k hkn
    have HS : Hid (∀ W, Below w.heap.size w W → Calls Tryz.prog 113 #[.slice la (nd ns k).list.length lc, .string t, fnF] W fun e w' => Below W.heap.size W w' ∧
      ((∃ j : Nat, j < (nd ns k).list.length ∧ e = .returned (.tuple #[.int .i64 j, .bool true]) ∧ (en (nd ns k).list j).name = t) ∨ (∃ j : Nat, j ≤ (nd ns k).list.length ∧ e = .returned (.tuple #[.int .i64 j, .bool false]) ∧ ∀ q, q < (nd ns k).list.length → (en (nd ns k).list q).name ≠ t))) :=
      fun W hW => search_any la _ lc _ t W (heg.below hW) hr (by omega)
    have HX : Hid (∀ W, Below w.heap.size w W → W.cell? ⟨b, off + k * 10 + 8, none⟩ = some (.slice la (nd ns k).list.length lc)) := fun W hW => (hW.cell (p := ⟨b, off + k * 10 + 8, none⟩) hb).trans h10.c8
    have HE : Hid (∀ W j, Below w.heap.size w W → j < (nd ns k).list.length → ∃ eb eo, la = some ⟨eb, eo, none⟩ ∧ W.cell? ⟨eb, eo + j * 2 + 1, none⟩ = some (.int .i64 (en (nd ns k).list j).node)) := fun W j hW hj => by
      rcases (heg.below hW).cells with h0 | ⟨eb, eo, h1, h2, h3⟩
      · omega
      · exact ⟨eb, eo, h1, (h3 j hj).c1⟩
    have HR := hide hr
    generalize (nd ns k).list = L at *
    obtain ⟨ll, hll⟩ : ∃ ll, L.length = ll := ⟨_, rfl⟩
    rw [hll] at HS HX HE hl512
    have HLL := hide hll
    clear hc h hs h10 heg hr hq hkl hlp hk0 hll
    have hb0 : Hid (Below w.heap.size w (w.alloc (.cells #[.slice (some ⟨b, off, none⟩) n cap, .int .i64 now] 24))) := (Below.refl _ _).alloc (Nat.le_refl _) _
    go_enter Tryz.func44, Tryz.ntmps44
    go_wp2_with fail
    refine (uh HC _ (uh hb0)).mono ?_
    rintro e w1 ⟨rfl, b1⟩
    have hB := hide (box_keep b1).2.1
    have c0 : w1.cell? ⟨w.heap.size, 0, none⟩ = some (.slice (some ⟨b, off, none⟩) n cap) := by rw [cell_of_row _ _ _ _ _ _ (box_keep b1).1]; rfl
    have c8 := uh HX w1 (uh hB)
    clear b1 HC HX
    go_wp2_with fail
    refine (uh HS _ (uh hB)).mono ?_
    clear c0 c8 HS
    rintro e w2 ⟨b2, ⟨j, hj, rfl, hjt⟩ | ⟨j, hj, rfl, hjt⟩⟩
    · have hB2 := hide ((uh hB).trans (b2.mono (uh hB).size))
      obtain ⟨eb, eo, rfl, ce⟩ := uh HE w2 j (uh hB2) hj
      have hF := hide (find_at (uh HR) j (by rw [uh HLL]; exact hj) hjt)
      generalize (en L j).node = no at *
      clear hjt b2 HE
      go_wp2
      go_ret
      exact ⟨by rw [uh hF]; rfl, uh hB2⟩
    · have hB2 := hide ((uh hB).trans (b2.mono (uh hB).size))
      have hF := hide (find_no (es := L) (t := t) (by rw [uh HLL]; exact hjt))
      clear hjt b2 HE
      go_wp2
      go_ret
      exact ⟨by rw [uh hF]; rfl, uh hB2⟩
end Go.Proofs.YtidhceebafmlkaaGreatDoor.Tr
