import Derived.Test.YtpcklgbcabpilaaGreatDoorTrNode
import Derived.Test.YtpcklgbcabpilaaGreatDoorCaStore2
import Derived.Lib.LaidTab
import Derived.OpenShut
import Derived.MakeChecks
import Derived.Test.YtpcklgbcabpilaaGreatDoorCaLives
/- The words of errors: calls.Word and the document's walked. -/
namespace Go.Proofs.YtpcklgbcabpilaaGreatDoor.Ca
open Go.RowKit Go.Proofs.YtpcklgbcabpilaaGreatDoor.Cu

def wordT : List ByteArray := [⟨#[]⟩, ⟨#[105, 110, 118, 97, 108, 105, 100, 32, 97, 114, 103, 117, 109, 101, 110, 116]⟩, ⟨#[]⟩, ⟨#[116, 111, 111, 32, 100, 101, 101, 112]⟩, ⟨#[]⟩, ⟨#[]⟩, ⟨#[110, 111, 32, 115, 117, 99, 104, 32, 102, 105, 108, 101, 32, 111, 114, 32, 100, 105, 114, 101, 99, 116, 111, 114, 121]⟩, ⟨#[102, 105, 108, 101, 32, 101, 120, 105, 115, 116, 115]⟩, ⟨#[105, 115, 32, 97, 32, 100, 105, 114, 101, 99, 116, 111, 114, 121]⟩, ⟨#[110, 111, 116, 32, 97, 32, 100, 105, 114, 101, 99, 116, 111, 114, 121]⟩, ⟨#[112, 101, 114, 109, 105, 115, 115, 105, 111, 110, 32, 100, 101, 110, 105, 101, 100]⟩, ⟨#[110, 111, 32, 115, 112, 97, 99, 101, 32, 108, 101, 102, 116]⟩, ⟨#[116, 111, 111, 32, 109, 97, 110, 121, 32, 108, 105, 110, 107, 115]⟩, ⟨#[110, 97, 109, 101, 32, 116, 111, 111, 32, 108, 111, 110, 103]⟩, ⟨#[100, 105, 114, 101, 99, 116, 111, 114, 121, 32, 110, 111, 116, 32, 101, 109, 112, 116, 121]⟩, ⟨#[100, 105, 114, 101, 99, 116, 111, 114, 121, 32, 105, 110, 116, 111, 32, 105, 116, 115, 101, 108, 102]⟩, ⟨#[]⟩, ⟨#[102, 105, 108, 101, 32, 116, 111, 111, 32, 108, 97, 114, 103, 101]⟩]
def wordAt (k : Nat) : ByteArray := wordT.getD k ⟨#[]⟩
/-- the table of words, in memory -/
def Ww (w : World) : Prop := ∀ k : Nat, k < 18 → w.cell? ⟨0, k, none⟩ = some (.string (wordAt k))
def wordR (n : Int) : ByteArray := if n = 1 then ⟨#[105, 110, 118, 97, 108, 105, 100, 32, 97, 114, 103, 117, 109, 101, 110, 116]⟩ else if n = 3 then ⟨#[116, 111, 111, 32, 100, 101, 101, 112]⟩ else if n = 6 then ⟨#[110, 111, 32, 115, 117, 99, 104, 32, 102, 105, 108, 101, 32, 111, 114, 32, 100, 105, 114, 101, 99, 116, 111, 114, 121]⟩ else if n = 7 then ⟨#[102, 105, 108, 101, 32, 101, 120, 105, 115, 116, 115]⟩ else if n = 8 then ⟨#[105, 115, 32, 97, 32, 100, 105, 114, 101, 99, 116, 111, 114, 121]⟩ else if n = 9 then ⟨#[110, 111, 116, 32, 97, 32, 100, 105, 114, 101, 99, 116, 111, 114, 121]⟩ else if n = 10 then ⟨#[112, 101, 114, 109, 105, 115, 115, 105, 111, 110, 32, 100, 101, 110, 105, 101, 100]⟩ else if n = 11 then ⟨#[110, 111, 32, 115, 112, 97, 99, 101, 32, 108, 101, 102, 116]⟩ else if n = 12 then ⟨#[116, 111, 111, 32, 109, 97, 110, 121, 32, 108, 105, 110, 107, 115]⟩ else if n = 13 then ⟨#[110, 97, 109, 101, 32, 116, 111, 111, 32, 108, 111, 110, 103]⟩ else if n = 14 then ⟨#[100, 105, 114, 101, 99, 116, 111, 114, 121, 32, 110, 111, 116, 32, 101, 109, 112, 116, 121]⟩ else if n = 15 then ⟨#[100, 105, 114, 101, 99, 116, 111, 114, 121, 32, 105, 110, 116, 111, 32, 105, 116, 115, 101, 108, 102]⟩ else if n = 17 then ⟨#[102, 105, 108, 101, 32, 116, 111, 111, 32, 108, 97, 114, 103, 101]⟩ else ⟨#[101, 114, 114, 111, 114]⟩
set_option maxRecDepth 100000 in
theorem word_at : ∀ k : Nat, k < 18 → wordR (k : Int) = if wordAt k = ⟨#[]⟩ then ⟨#[101, 114, 114, 111, 114]⟩ else wordAt k := by decide +kernel
theorem word_beyond (n : Int) (h : n < 0 ∨ 18 ≤ n) : wordR n = ⟨#[101, 114, 114, 111, 114]⟩ := by
  unfold wordR
  iterate 13 rw [if_neg (by omega)]
set_option maxRecDepth 100000 in
set_option maxHeartbeats 1000000 in
theorem rword_any (n : Int) (w : World) : Calls Tryz.prog 35 #[.int .i64 n] w fun e w' => e = .returned (.string (wordR n)) ∧ w' = w := by
  by_cases h1 : n = 1
  · subst h1
    go_enter Tryz.func35, Tryz.ntmps35
    go_wp2
    go_ret
    exact ⟨rfl, rfl⟩
  by_cases h3 : n = 3
  · subst h3
    go_enter Tryz.func35, Tryz.ntmps35
    go_wp2
    go_ret
    exact ⟨rfl, rfl⟩
  by_cases h6 : n = 6
  · subst h6
    go_enter Tryz.func35, Tryz.ntmps35
    go_wp2
    go_ret
    exact ⟨rfl, rfl⟩
  by_cases h7 : n = 7
  · subst h7
    go_enter Tryz.func35, Tryz.ntmps35
    go_wp2
    go_ret
    exact ⟨rfl, rfl⟩
  by_cases h8 : n = 8
  · subst h8
    go_enter Tryz.func35, Tryz.ntmps35
    go_wp2
    go_ret
    exact ⟨rfl, rfl⟩
  by_cases h9 : n = 9
  · subst h9
    go_enter Tryz.func35, Tryz.ntmps35
    go_wp2
    go_ret
    exact ⟨rfl, rfl⟩
  by_cases h10 : n = 10
  · subst h10
    go_enter Tryz.func35, Tryz.ntmps35
    go_wp2
    go_ret
    exact ⟨rfl, rfl⟩
  by_cases h11 : n = 11
  · subst h11
    go_enter Tryz.func35, Tryz.ntmps35
    go_wp2
    go_ret
    exact ⟨rfl, rfl⟩
  by_cases h12 : n = 12
  · subst h12
    go_enter Tryz.func35, Tryz.ntmps35
    go_wp2
    go_ret
    exact ⟨rfl, rfl⟩
  by_cases h13 : n = 13
  · subst h13
    go_enter Tryz.func35, Tryz.ntmps35
    go_wp2
    go_ret
    exact ⟨rfl, rfl⟩
  by_cases h14 : n = 14
  · subst h14
    go_enter Tryz.func35, Tryz.ntmps35
    go_wp2
    go_ret
    exact ⟨rfl, rfl⟩
  by_cases h15 : n = 15
  · subst h15
    go_enter Tryz.func35, Tryz.ntmps35
    go_wp2
    go_ret
    exact ⟨rfl, rfl⟩
  by_cases h17 : n = 17
  · subst h17
    go_enter Tryz.func35, Tryz.ntmps35
    go_wp2
    go_ret
    exact ⟨rfl, rfl⟩
  have e1 : (n == 1) = false := beq_eq_false_iff_ne.2 h1
  have e3 : (n == 3) = false := beq_eq_false_iff_ne.2 h3
  have e6 : (n == 6) = false := beq_eq_false_iff_ne.2 h6
  have e7 : (n == 7) = false := beq_eq_false_iff_ne.2 h7
  have e8 : (n == 8) = false := beq_eq_false_iff_ne.2 h8
  have e9 : (n == 9) = false := beq_eq_false_iff_ne.2 h9
  have e10 : (n == 10) = false := beq_eq_false_iff_ne.2 h10
  have e11 : (n == 11) = false := beq_eq_false_iff_ne.2 h11
  have e12 : (n == 12) = false := beq_eq_false_iff_ne.2 h12
  have e13 : (n == 13) = false := beq_eq_false_iff_ne.2 h13
  have e14 : (n == 14) = false := beq_eq_false_iff_ne.2 h14
  have e15 : (n == 15) = false := beq_eq_false_iff_ne.2 h15
  have e17 : (n == 17) = false := beq_eq_false_iff_ne.2 h17
  have hw : wordR n = ⟨#[101, 114, 114, 111, 114]⟩ := by
    unfold wordR
    rw [if_neg h1, if_neg h3, if_neg h6, if_neg h7, if_neg h8, if_neg h9, if_neg h10, if_neg h11, if_neg h12, if_neg h13, if_neg h14, if_neg h15, if_neg h17]
  rw [hw]
  clear hw h1 h3 h6 h7 h8 h9 h10 h11 h12 h13 h14 h15 h17
  go_enter Tryz.func35, Tryz.ntmps35
  go_wp2
  go_ret
  exact ⟨rfl, rfl⟩
set_option maxRecDepth 100000 in
set_option maxHeartbeats 1000000 in
theorem word_any (n : Int) (w : World) (hw : Ww w) : Calls Tryz.prog 34 #[.int .i64 n] w fun e w' => e = .returned (.string (wordR n)) ∧ w' = w := by
  by_cases h0 : n < 0
  · rw [word_beyond n (.inl h0)]
    clear hw
    go_enter Tryz.func34, Tryz.ntmps34
    go_wp2
    go_ret
    exact ⟨rfl, rfl⟩
  by_cases h1 : 18 ≤ n
  · rw [word_beyond n (.inr h1)]
    clear hw
    go_enter Tryz.func34, Tryz.ntmps34
    go_wp2
    go_ret
    exact ⟨rfl, rfl⟩
  obtain ⟨k, rfl⟩ : ∃ k : Nat, n = (k : Int) := ⟨n.toNat, by omega⟩
  have hk : k < 18 := by omega
  have hc := hw k hk
  have hkk : (k : Int) < 18 := by omega
  have HR : Hid (wordR (k : Int) = if wordAt k = ⟨#[]⟩ then ⟨#[101, 114, 114, 111, 114]⟩ else wordAt k) := word_at k hk
  generalize wordR (k : Int) = R at *
  generalize wordAt k = s at *
  clear hw h0 h1
  by_cases hs : s = ⟨#[]⟩
  · have HR2 : Hid (R = ⟨#[101, 114, 114, 111, 114]⟩) := by show _ = _; rw [unhide HR, if_pos hs]
    subst hs
    clear HR
    go_enter Tryz.func34, Tryz.ntmps34
    go_wp2
    go_ret
    exact ⟨by rw [unhide HR2]; rfl, rfl⟩
  · have HR2 : Hid (R = s) := by show _ = _; rw [unhide HR, if_neg hs]
    have hsb : (s.toList == []) = false := by
      rw [beq_eq_false_iff_ne]
      intro q
      refine hs ?_
      obtain ⟨a⟩ := s
      rw [ByteArray.toList_eq] at q
      have : a.toList = [] := q
      rw [Array.toList_eq_nil_iff.1 this]
    clear HR hs
    go_enter Tryz.func34, Tryz.ntmps34
    go_wp2
    go_ret
    exact ⟨by rw [unhide HR2]; rfl, rfl⟩
end Go.Proofs.YtpcklgbcabpilaaGreatDoor.Ca

/- The tables of package calls, out of what a row lays. -/
namespace Go.Proofs.YtpcklgbcabpilaaGreatDoor.Ca
open Go.RowKit Go.Proofs.YtpcklgbcabpilaaGreatDoor.Cu Go.Proofs.YtpcklgbcabpilaaGreatDoor.Tr Go.Proofs.YtpcklgbcabpilaaGreatDoor.Pm Go.Proofs.YtpcklgbcabpilaaGreatDoor.Pt

theorem laid_mem' {P : Program} {w : World} {n : String} {d : DataW Unit} : ∀ {l : List (String × DataW Unit)} {ps : List MemPlace}, DataW.LaidVars P w l ps → (n, d) ∈ l →
    ∃ g t cs fuel p, P.globalNamed n = some g ∧ (P.globals[g]?).map (·.type) = some t ∧ w.var? P n = some cs ∧ DataW.trod (fun _ => ()) P w 0 (fun _ => true) false fuel t cs.toList = some (d, p)
  | [], _, _, h => by simp at h
  | (n', d') :: r, ps, h, hm => by
    obtain ⟨g, t, cs, fuel, p, q, h1, h2, h3, h4, h5, _⟩ := h
    rcases List.mem_cons.1 hm with e | hm
    · cases e
      exact ⟨g, t, cs, fuel, p, h1, h2, h3, h4⟩
    · exact laid_mem' h5 hm
theorem one_at {cs : List Value} {i k : Nat} {v : Value} (h : (((cs.drop i).take k)) = [v]) : cs[i]? = some v := by
  have q := congrArg (·[0]?) h
  rw [List.getElem?_take] at q
  split at q
  · simpa using q
  · simp at q
theorem cell_lt {W : World} {g i : Nat} {v : Value} (h : W.cell? ⟨g, i, none⟩ = some v) : g < W.heap.size := by
  refine Decidable.byContradiction fun q => ?_
  have e : W.heap[g]? = none := Array.getElem?_eq_none (by omega)
  simp [World.cell?, e] at h
def wordsD : DataW Unit := .agg (wordT.map fun s => .lit (.string s.data.toList))
theorem wordsG : Tryz.prog.globalNamed "toolchest/calls.words" = some 0 := by kernel_rfl
theorem wordsTy : (Tryz.prog.globals[(0 : Nat)]?).map (·.type) = some 119 := by kernel_rfl
theorem wordsC : Tryz.prog.cellsOf 9 = 1 := by kernel_rfl
theorem ww_of {W : World} {l : List (String × DataW Unit)} {ps : List MemPlace} (h : DataW.LaidVars Tryz.prog W l ps) (hm : ("toolchest/calls.words", wordsD) ∈ l) : Ww W := by
  obtain ⟨g, t, cs, fuel, p, h1, h2, h3, h4⟩ := laid_mem' h hm
  obtain rfl := Option.some.inj (h1.symm.trans wordsG)
  obtain rfl := Option.some.inj (h2.symm.trans wordsTy)
  obtain ⟨xs, m, -, hx, -, hlen, hf⟩ := DataW.trod_array Tryz.underlying119 h4
  intro k hk
  have hf := hf k hk
  rw [wordsC, Nat.mul_one, List.getElem?_eq_getElem (by omega)] at hf
  obtain ⟨s, e1, e2, -⟩ := DataW.trod_string Tryz.underlying9 hf
  have e3 : (xs.map (·.1))[k]? = (wordT.map fun s => (DataW.lit (.string s.data.toList) : DataW Unit))[k]? := by
    have := congrArg Prod.fst hx
    unfold wordsD at this
    injection this with this
    rw [← this]
  have hkl : k < wordT.length := hk
  rw [List.getElem?_map, List.getElem?_map, List.getElem?_eq_getElem (by omega : k < xs.length), List.getElem?_eq_getElem hkl, e2] at e3
  simp only [Option.map_some, Option.some.injEq, DataW.lit.injEq, Lit.string.injEq] at e3
  have hs : s = wordAt k := by
    unfold wordAt
    rw [List.getD, List.getElem?_eq_getElem hkl, Option.getD_some]
    cases s with | mk a =>
    generalize wordT[k] = b at e3 ⊢
    cases b with | mk b =>
    exact congrArg ByteArray.mk (Array.toList_inj.1 e3)
  have hc := World.var?_cell wordsG h3 k
  rw [hc, ← hs]
  simpa using one_at e1
def rowsD : DataW Unit := .agg ((List.range 13).map fun k => .agg [.lit (.int .i64 ((rowOf (UInt8.ofNat k)).1 : Nat)), .lit (.bool (rowOf (UInt8.ofNat k)).2.1), .lit (.bool (rowOf (UInt8.ofNat k)).2.2)])
theorem rowsG : Tryz.prog.globalNamed "toolchest/calls.rows" = some 1 := by kernel_rfl
theorem rowsTy : (Tryz.prog.globals[(1 : Nat)]?).map (·.type) = some 133 := by kernel_rfl
theorem rowsC : Tryz.prog.cellsOf 132 = 3 ∧ Tryz.prog.cellsOf 3 = 1 ∧ Tryz.prog.cellsOf 4 = 1 := ⟨by kernel_rfl, by kernel_rfl, by kernel_rfl⟩
theorem sub_at {cs : List Value} {i j : Nat} {v : Value} (hj : j < 3) (h : ((((cs.drop i).take 3).drop j).take 1) = [v]) : cs[i + j]? = some v := by
  have q := one_at h
  rw [List.getElem?_take, if_pos hj, List.getElem?_drop] at q
  exact q
theorem rw_of {W : World} {l : List (String × DataW Unit)} {ps : List MemPlace} (h : DataW.LaidVars Tryz.prog W l ps) (hm : ("toolchest/calls.rows", rowsD) ∈ l) : Rw W := by
  obtain ⟨g, t, cs, fuel, p, h1, h2, h3, h4⟩ := laid_mem' h hm
  obtain rfl := Option.some.inj (h1.symm.trans rowsG)
  obtain rfl := Option.some.inj (h2.symm.trans rowsTy)
  obtain ⟨xs, m, -, hx, -, hlen, hf⟩ := DataW.trod_array Tryz.underlying133 h4
  have key : ∀ k : Nat, k < 13 → W.cell? ⟨1, k * 3, none⟩ = some (.int .i64 ((rowOf (UInt8.ofNat k)).1 : Nat)) ∧ W.cell? ⟨1, k * 3 + 1, none⟩ = some (.bool (rowOf (UInt8.ofNat k)).2.1) ∧ W.cell? ⟨1, k * 3 + 2, none⟩ = some (.bool (rowOf (UInt8.ofNat k)).2.2) := by
    intro k hk
    have hf := hf k hk
    rw [rowsC.1, List.getElem?_eq_getElem (by omega)] at hf
    have e3 : (xs.map (·.1))[k]? = ((List.range 13).map fun k => (.agg [.lit (.int .i64 ((rowOf (UInt8.ofNat k)).1 : Nat)), .lit (.bool (rowOf (UInt8.ofNat k)).2.1), .lit (.bool (rowOf (UInt8.ofNat k)).2.2)] : DataW Unit))[k]? := by
      have := congrArg Prod.fst hx
      unfold rowsD at this
      injection this with this
      rw [← this]
    rw [List.getElem?_map, List.getElem?_map, List.getElem?_eq_getElem (by omega : k < xs.length), List.getElem?_eq_getElem (by simpa using hk), List.getElem_range] at e3
    simp only [Option.map_some, Option.some.injEq] at e3
    obtain ⟨ys, n, -, hy, -, hlen3, hf3⟩ := DataW.trod_struct Tryz.underlying132 hf
    rw [hy] at e3
    injection e3 with e3
    have hl3 : ys.length = 3 := hlen3
    match ys, hl3 with
    | [y0, y1, y2], _ =>
    simp only [List.map_cons, List.map_nil, List.cons.injEq, and_true] at e3
    obtain ⟨a0, a1, a2⟩ := e3
    have f0 : DataW.trod (fun _ => ()) Tryz.prog W 0 (fun _ => true) false n 3 ((((cs.toList.drop (k * 3)).take 3).drop 0).take (Tryz.prog.cellsOf 3)) = some y0 := hf3 0 _ rfl
    have f1 : DataW.trod (fun _ => ()) Tryz.prog W 0 (fun _ => true) false n 4 ((((cs.toList.drop (k * 3)).take 3).drop 1).take (Tryz.prog.cellsOf 4)) = some y1 := hf3 1 _ rfl
    have f2 : DataW.trod (fun _ => ()) Tryz.prog W 0 (fun _ => true) false n 4 ((((cs.toList.drop (k * 3)).take 3).drop 2).take (Tryz.prog.cellsOf 4)) = some y2 := hf3 2 _ rfl
    rw [rowsC.2.1] at f0
    rw [rowsC.2.2] at f1 f2
    obtain ⟨z, b0, c0, -⟩ := DataW.trod_int Tryz.underlying3 f0
    obtain ⟨z1, b1, c1⟩ := DataW.trod_bool Tryz.underlying4 f1
    obtain ⟨z2, b2, c2⟩ := DataW.trod_bool Tryz.underlying4 f2
    rw [c0] at a0
    rw [c1] at a1
    rw [c2] at a2
    simp only [DataW.lit.injEq, Lit.int.injEq, Lit.bool.injEq, true_and] at a0 a1 a2
    have hc := fun i => World.var?_cell rowsG h3 i
    refine ⟨?_, ?_, ?_⟩
    · rw [hc, ← a0]; have := sub_at (i := k * 3) (j := 0) (by decide) b0; rwa [Array.getElem?_toList, Nat.add_zero] at this
    · rw [hc, ← a1]; have := sub_at (i := k * 3) (j := 1) (by decide) b1; rwa [Array.getElem?_toList] at this
    · rw [hc, ← a2]; have := sub_at (i := k * 3) (j := 2) (by decide) b2; rwa [Array.getElem?_toList] at this
  refine ⟨cell_lt (key 0 (by decide)).1, fun k hk => ?_⟩
  have := key k.toNat hk
  rwa [UInt8.ofNat_toNat] at this
theorem rw_of_laid {W : World} {l : List (String × DataW Unit)} (h : laidMetH Tryz.prog l W) (hp : (l.all fun x => x.2.handleName?.isNone) = true) (hm : ("toolchest/calls.rows", rowsD) ∈ l) : Rw W := by
  rw [Go.MakeChecks.laidMetH_plain _ _ _ hp] at h
  obtain ⟨ps, h, _⟩ := h
  exact rw_of h hm
theorem ww_of_laid {W : World} {l : List (String × DataW Unit)} (h : laidMetH Tryz.prog l W) (hp : (l.all fun x => x.2.handleName?.isNone) = true) (hm : ("toolchest/calls.words", wordsD) ∈ l) : Ww W := by
  rw [Go.MakeChecks.laidMetH_plain _ _ _ hp] at h
  obtain ⟨ps, h, _⟩ := h
  exact ww_of h hm
end Go.Proofs.YtpcklgbcabpilaaGreatDoor.Ca

/- CallsWords walked. -/
namespace Go.Proofs.YtpcklgbcabpilaaGreatDoor.Ca
open Go.RowKit Go.Proofs.YtpcklgbcabpilaaGreatDoor.Cu Go.Proofs.YtpcklgbcabpilaaGreatDoor.Tr Go.Proofs.YtpcklgbcabpilaaGreatDoor.Pm Go.Proofs.YtpcklgbcabpilaaGreatDoor.Pt

set_option maxRecDepth 100000 in
set_option maxHeartbeats 1000000 in
theorem words_any (n : Int) (w : World) (hr : Rw w) (hw : Ww w) : Calls Tryz.prog 5 #[.int .i64 n] w fun e w' => e = .returned (.bool true) ∧ Below w.heap.size w w' := by
  have H1 := hide (word_any n w hw)
  have H2 := hide (rword_any n w)
  have H3 := hide (lives_any w hr)
  clear hr hw
  generalize wordR n = s at *
  go_enter Tryz.func5, Tryz.ntmps5
  go_wp2_with fail
  refine (unhide H1).mono ?_
  rintro e w1 ⟨rfl, rfl⟩
  go_wp2_with fail
  refine (unhide H2).mono ?_
  rintro e w2 ⟨rfl, rfl⟩
  have hs : (s.toList == s.toList) = true := by simp
  go_wp2_with fail
  refine (unhide H3).mono ?_
  rintro e w3 ⟨rfl, hb⟩
  have HB := hide hb
  clear hb H1 H2 H3
  go_wp2_with fail
  go_ret
  exact ⟨rfl, unhide HB⟩
end Go.Proofs.YtpcklgbcabpilaaGreatDoor.Ca
