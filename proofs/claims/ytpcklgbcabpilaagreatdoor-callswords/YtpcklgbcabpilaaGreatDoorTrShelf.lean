import Derived.Test.YtpcklgbcabpilaaGreatDoorCaInsert
import Derived.Deep.RegionLaw
import Derived.Shelf.Small.Strs
import Derived.Shelf.Strconv.Itoa0
import Derived.Test.YtpcklgbcabpilaaGreatDoorProg
/- What slices.Delete answers for one name. -/
namespace Go.Proofs.YtpcklgbcabpilaaGreatDoor.Ca
open Go.RowKit Go.Proofs.YtpcklgbcabpilaaGreatDoor.Cu Go.Proofs.YtpcklgbcabpilaaGreatDoor.Tr

def delE (es : List En) (i : Nat) : List En := es.take i ++ es.drop (i + 1)
theorem delE_length (es : List En) (i p : Nat) (hp : es.length = p + 1) (h : i ≤ p) : (delE es i).length = p := by simp [delE]; omega
theorem out_of {C Z : List Value} {es : List En} {p c i : Nat} (hne : es.length = p + 1) (hz : Z.length = 2) (hl : C.length = c * 2) (ht : C.take ((p + 1) * 2) = entCells es) (hi : i ≤ p) (hc : p + 1 ≤ c) :
    let X1 := C.take (i * 2) ++ entCells (es.drop (i + 1)) ++ C.drop (i * 2 + (entCells (es.drop (i + 1))).length)
    let X2 := X1.take (p * 2) ++ Z ++ X1.drop (p * 2 + Z.length)
    X1.length = c * 2 ∧ X2.length = c * 2 ∧ X2.take (p * 2) = entCells (delE es i) := by
  have hd : (entCells (es.drop (i + 1))).length = (p - i) * 2 := by rw [entCells_length, List.length_drop, hne]; omega
  have hti : C.take (i * 2) = entCells (es.take i) := by rw [entCells_take, ← ht, List.take_take, Nat.min_eq_left (by omega)]
  have htil : (entCells (es.take i)).length = i * 2 := by rw [entCells_length, List.length_take, hne]; omega
  intro X1 X2
  have hX1 : X1 = entCells (delE es i) ++ C.drop (i * 2 + (p - i) * 2) := by
    show C.take (i * 2) ++ entCells (es.drop (i + 1)) ++ C.drop (i * 2 + (entCells (es.drop (i + 1))).length) = _
    rw [hti, hd, delE, entCells_app]
  have hdl : (entCells (delE es i)).length = p * 2 := by rw [entCells_length, delE_length es i p hne hi]
  have hl1 : X1.length = c * 2 := by rw [hX1, List.length_append, hdl, List.length_drop, hl]; omega
  have e1 : X1.take (p * 2) = entCells (delE es i) := by rw [hX1, ← hdl, List.take_left]
  refine ⟨hl1, ?_, ?_⟩
  · show (X1.take (p * 2) ++ Z ++ X1.drop (p * 2 + Z.length)).length = _
    rw [e1]
    simp only [List.length_append, hdl, hz, List.length_drop, hl1]; omega
  · show (X1.take (p * 2) ++ Z ++ X1.drop (p * 2 + Z.length)).take (p * 2) = _
    rw [e1, List.append_assoc, ← hdl, List.take_left]
/-- an append whose run is known, as one step of a region that draws -/
theorem step_appendR {P : Program} {ops : Array Oper} {o : Oper} {a : Act} {w : World} {K : Act → World → Prop} {Q : Exit → Act → World → Prop} {E : Prop} (hg : o.guard = none) (d x : Operand) (dT sT : TypeId) (hop : o.op = .call { callee := .builtin .append, args := #[d, x], argTypes := #[dT, sT] })
    (v u : Value) (hd : a.eval d = v) (hx : a.eval x = u) {v' : Value} {w' : World} (hr : (Builtin.append_ #[dT, sT] o.type #[v, u]).run P w = .ok v' w') (hK : K (a.put o.dst v') w') : if Region.wanted o (yielded ops a.tmps) = true then Oper.wp P o a w K Q else E := by
  have hw : Region.wanted o (yielded ops a.tmps) = true := by simp [Region.wanted, hg]
  rw [if_pos hw]
  unfold Oper.wp
  simp [execOp, hop, resolve, invoke, builtin, hd, hx, hr, Result.andThen]
  exact hK
abbrev zE : List Value := [.string ⟨#[]⟩, .int .i64 0]
theorem run_clear_one (w : World) (g p c cc : Nat) (ty : TypeId) (X : List Value) (hg : w.heap[g]? = some (.cells X.toArray 116 (0, 0))) (hl : X.length = c * 2) (hc : p + 1 ≤ c) :
    (Builtin.clear_ #[80] ty #[.slice (some ⟨g, p * 2, none⟩) 1 cc]).run Tryz.prog w = .ok (.tuple #[]) (w.setRow g (X.take (p * 2) ++ zE ++ X.drop (p * 2 + zE.length)).toArray) := by
  have hst := run_storeCells_at Tryz.prog g (p * 2) 116 zE 0 X.toArray w hg (by simp; omega) (fun u hu => by
    simp only [zE, List.mem_cons, List.not_mem_nil, or_false] at hu
    rcases hu with rfl | rfl <;> rfl)
  have hz : (Builtin.zeroCells (Value.agg #[.string ⟨#[]⟩, .int .i64 0]).cells 1).toList = zE := by kernel_rfl
  have hv : (zeroValue 116).run Tryz.prog w = .ok (.agg #[.string ⟨#[]⟩, .int .i64 0]) w := Tryz.zeroValue116 w
  simp only [Nat.add_zero] at hst
  simp [Builtin.clear_, run_underlying Tryz.underlying80, hv, hz, hst]
set_option maxRecDepth 100000 in
set_option maxHeartbeats 1000000 in
theorem delete_any (B : Nat) (v : Value) (es : List En) (i : Nat) (w : World) (h : RowE B v es w) (hi : i < es.length) (hn : es.length ≤ 1000000) :
    Calls Tryz.prog 252 #[v, .int .i64 i, .int .i64 ((i : Int) + 1)] w fun r w' => ∃ v', r = .returned v' ∧ RowE B v' (delE es i) w' ∧ w.grownBy w' v.ownBlock ∧ v'.ownBlock = v.ownBlock := by
  obtain ⟨p, hp⟩ : ∃ p, es.length = p + 1 := ⟨es.length - 1, by omega⟩
  obtain ⟨i0, hi0, hz0, hzs, hzb⟩ := info_parts infoE
  obtain ⟨g, c, C, rfl, hB, hg, hle, hc63, hCl, hCt⟩ : ∃ (g c : Nat) (C : List Value), v = .slice (some ⟨g, 0, none⟩) (p + 1) c ∧ B ≤ g ∧ w.heap[g]? = some (.cells C.toArray 116 (0, 0)) ∧ p + 1 ≤ c ∧ c ≤ maxLen ∧ C.length = c * 2 ∧ C.take ((p + 1) * 2) = entCells es := by
    rcases h.2 with ⟨_, hq⟩ | ⟨g, c, cur, hq, h1, h2, h5, hm, h3, h4⟩
    · omega
    · rw [hp] at hq h4 h5
      exact ⟨g, c, cur.toList, hq, h1, by simpa using h2, h5, hm, by simpa using h3, h4⟩
  rw [hp] at hi hn
  have hc64 : c ≤ 9223372036854775807 := by unfold maxLen at hc63; omega
  obtain ⟨hX1, hX2, hX3⟩ := out_of (Z := zE) hp rfl hCl hCt (show i ≤ p by omega) hle
  have hdl : (entCells (es.drop (i + 1))).length = (p - i) * 2 := by rw [entCells_length, List.length_drop, hp]; omega
  have hcs : ∀ j u, (entCells (es.drop (i + 1)))[j]? = some u → w.cell? ⟨g, (i + 1) * 2 + j, none⟩ = some u := fun j u hj => by
    rw [cell_of_row _ _ _ _ _ _ hg]
    rw [entCells_drop, List.getElem?_drop, ← hCt, List.getElem?_take] at hj
    split at hj
    · simpa using hj
    · cases hj
  obtain ⟨Y, hY⟩ : ∃ Y, Y = entCells (es.drop (i + 1)) := ⟨_, rfl⟩
  rw [← hY] at hX1 hX2 hX3 hdl hcs
  have hY1 : ∀ u ∈ Y, u.oneCell' = true := by rw [hY]; exact entCells_one _
  obtain ⟨X1, hX1e⟩ : ∃ X1, X1 = C.take (i * 2) ++ Y ++ C.drop (i * 2 + Y.length) := ⟨_, rfl⟩
  rw [← hX1e] at hX1 hX2 hX3
  have hap : ∀ (ad : Addr) (m cc : Nat), m = p - i → (∀ j u, Y[j]? = some u → w.cell? (ad.add j) = some u) → ∀ ty, (Builtin.append_ #[80, 80] ty #[.slice (some ⟨g, 0, none⟩) i c, .slice (some ad) m cc]).run Tryz.prog w.drew = .ok (.slice (some ⟨g, 0, none⟩) p c) (w.drew.setRow g X1.toArray) := fun ad m cc hm hs ty => by
    have q := run_append_room (P := Tryz.prog) w.drew 80 ty 116 i0 Tryz.underlying80 hi0 g i c C.toArray hg ad m cc Y (by rw [hzs, hm]; exact hdl) hs hY1 (by omega) (by rw [hzs]; simp; omega)
    rw [hzs, show i + m = p by omega] at q
    rw [hX1e]
    simpa using q
  obtain ⟨W1, hW1⟩ : ∃ W1, W1 = w.drew.setRow g X1.toArray := ⟨_, rfl⟩
  rw [← hW1] at hap
  have hg1 : W1.heap[g]? = some (.cells X1.toArray 116 (0, 0)) := by rw [hW1]; exact setRow_heap w.drew g _ _ _ _ hg
  have hclr : ∀ ty cc, (Builtin.clear_ #[80] ty #[.slice (some ⟨g, p * 2, none⟩) 1 cc]).run Tryz.prog W1 = .ok (.tuple #[]) (W1.setRow g (X1.take (p * 2) ++ zE ++ X1.drop (p * 2 + zE.length)).toArray) := fun ty cc => run_clear_one W1 g p c cc ty X1 hg1 hX1 hle
  obtain ⟨X2, hX2e⟩ : ∃ X2, X2 = X1.take (p * 2) ++ zE ++ X1.drop (p * 2 + zE.length) := ⟨_, rfl⟩
  rw [← hX2e] at hX2 hX3 hclr
  have HG : Hid ((W1.setRow g X2.toArray).ownsRow B 116 2 (.slice (some ⟨g, 0, none⟩) p c) p (entCells (delE es i))) :=
    ⟨by rw [← hX3, List.length_take, hX2]; omega, .inr ⟨g, c, X2.toArray, rfl, hB, setRow_heap W1 g _ _ _ _ hg1, by omega, hc63, by simpa using hX2, by simpa using hX3⟩⟩
  have HW : Hid (w.grownBy (W1.setRow g X2.toArray) (some g)) := by
    rw [hW1]
    exact ⟨rfl, rfl, rfl, by simp [World.setRow], fun k hk hne => by
      have hkg : k ≠ g := fun q => hne (by rw [q])
      rw [setRow_other _ g k _ hkg, setRow_other _ g k _ hkg]; rfl⟩
  obtain ⟨W2, hW2⟩ : ∃ W2, W2 = W1.setRow g X2.toArray := ⟨_, rfl⟩
  rw [← hW2] at hclr HG HW
  have hL : Hid ((delE es i).length = p) := delE_length es i p hp (by omega)
  obtain ⟨I, hI⟩ : ∃ I, I = delE es i := ⟨_, rfl⟩
  rw [← hI] at HG hL ⊢
  have hz1' : ¬ ((i : Int) = (i : Int) + 1) := by omega
  by_cases hcap : c = i + 1
  · have hpi : p = i := by omega
    subst hpi
    have hY0 : Y = [] := List.eq_nil_of_length_eq_zero (by rw [hdl]; omega)
    have hap1 := hap ⟨g, 0, none⟩ 0 0 (by omega) (by rw [hY0]; simp)
    have hXC : X1 = C := by rw [hX1e, hY0]; simp
    have hWe : W1 = w.drew := by rw [hW1, hXC]; exact setRow_self w.drew g C.toArray _ _ hg
    rw [hWe] at hclr hap1
    clear h hg hCl hCt hX1 hX2 hX3 hdl hcs hY hY1 hX1e hap hW1 hg1 hX2e hW2 hI hp hi0 hz0 hzs hzb hY0 hle hXC hWe
    subst hcap
    go_enter Tryz.func252, Tryz.ntmps252
    go_upto_region 5 with fail
    go_region
    go_wp2
    go_ret
    refine ⟨_, rfl, ?_, unhide HW, rfl⟩
    show World.ownsRow _ _ _ _ _ _ _
    rw [unhide hL]
    exact unhide HG
  · have hap1 : ∀ ty cc, (Builtin.append_ #[80, 80] ty #[.slice (some ⟨g, 0, none⟩) i c, .slice (some ⟨g, (i + 1) * 2, none⟩) (p - i) cc]).run Tryz.prog w.drew = .ok (.slice (some ⟨g, 0, none⟩) p c) W1 := fun ty cc => hap ⟨g, (i + 1) * 2, none⟩ (p - i) cc rfl (fun j u hj => by rw [add_none]; exact hcs j u hj) ty
    clear h hg hCl hCt hX1 hX2 hX3 hdl hcs hY hY1 hX1e hap hW1 hg1 hX2e hW2 hI hp hi0 hz0 hzs hzb
    have hic : i ≤ c := by omega
    have htn : ((i : Int) + 1).toNat = i + 1 := by omega
    have hb1 : (0 : Int) ≤ (i : Int) + 1 := by omega
    have hb2 : (i : Int) ≤ (p : Int) := by omega
    go_enter Tryz.func252, Tryz.ntmps252
    go_upto_region 5 with fail
    go_region_law (refine step_appendR rfl (.tmp 22) (.tmp 25) 80 80 rfl (.slice (some ⟨g, 0, none⟩) i c) (.slice (some ⟨g, (i + 1) * 2, none⟩) (p - i) (c - (i + 1))) (by rfl) (by rfl) (hap1 _ _) ?_)
    go_wp2
    go_ret
    refine ⟨_, rfl, ?_, unhide HW, rfl⟩
    show World.ownsRow _ _ _ _ _ _ _
    rw [unhide hL]
    exact unhide HG
end Go.Proofs.YtpcklgbcabpilaaGreatDoor.Ca

/- The contracts of the library functions that are called, laid over this translation. -/
namespace Go.Proofs
open Go.Shelf
def Tryz.lays106_ren : Go.Shelf.Ren := ⟨fun | 106 => 115 | 213 => 179 | 265 => 234 | n => n, fun | 9 => 9 | 3 => 3 | n => n, fun | n => n⟩
theorem Tryz.lays106 : Go.Proofs.Lays.n106 Tryz.prog Tryz.lays106_ren := {
  mixed := by kernel_rfl
  f106 := Tryz.func115.trans (congrArg some (by kernel_rfl))
  f213 := Tryz.func179.trans (congrArg some (by kernel_rfl))
  f265 := Tryz.func234.trans (congrArg some (by kernel_rfl))
  t3 := Tryz.underlying3
  a3 := Tryz.isAgg3
  z3 := Tryz.sizeOf3
  v3 := Tryz.zeroValue3
  t9 := Tryz.underlying9
  a9 := Tryz.isAgg9
  z9 := Tryz.sizeOf9
  v9 := Tryz.zeroValue9 }
open Go.RowKit in
theorem Tryz.strings_Compare (a b : ByteArray) (w : World) :
    Calls Tryz.prog 115 #[.string a, .string b] w fun e w' => e = .returned (.int .i64 (Lib.compareBytes a.data.toList b.data.toList)) ∧ w' = w := Any.strings_Compare Tryz.lays106 a b w
end Go.Proofs
