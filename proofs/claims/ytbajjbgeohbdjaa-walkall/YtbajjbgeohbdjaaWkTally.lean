/- The tally of a walk's sizes in memory: nodeOf, sizeOf, add, end. -/
import Derived.Test.YtbajjbgeohbdjaaWkSz
import Derived.Test.YtbajjbgeohbdjaaTrStatW
import Derived.Test.YtbajjbgeohbdjaaPtTake
import Derived.Deep.CutBlock
import Derived.Deep.DeepCutAuto
namespace Go.Proofs.Ytbajjbgeohbdjaa.Wk
open Go.RowKit Go.Proofs.Ytbajjbgeohbdjaa.Cu Go.Proofs.Ytbajjbgeohbdjaa.Tr Go.Proofs.Ytbajjbgeohbdjaa.Pm Go.Proofs.Ytbajjbgeohbdjaa.Pt

abbrev tyY : TypeId := 65
theorem Try.infoBool : (Try.prog.info? 4).map (fun i => (i.zero, i.size, i.bytes)) = some (some (.bool false), 1, 1) := by kernel_rfl
/-- which nodes were met -/
def bv (n : Nat) (T : List Nat) : Array Value := ((List.range n).map fun i => .bool (decide (i ∈ T))).toArray
theorem bv_size (n : Nat) (T : List Nat) : (bv n T).size = n := by simp [bv]
theorem bv_get (n : Nat) (T : List Nat) (i : Nat) (h : i < n) : (bv n T)[i]? = some (.bool (decide (i ∈ T))) := by simp [bv, h]
theorem bv_set (n : Nat) (T : List Nat) (k : Nat) : (bv n T).setIfInBounds k (.bool true) = bv n (k :: T) := by
  apply Array.ext_getElem?
  intro i
  by_cases hi : i < n
  · rw [bv_get _ _ i hi, Array.getElem?_setIfInBounds]
    by_cases e : k = i
    · subst e; simp [bv_size, hi]
    · rw [if_neg e, bv_get _ _ i hi]
      have : ¬ i = k := fun h => e h.symm
      simp [this]
  · rw [Array.getElem?_eq_none (by simp [bv_size]; omega), Array.getElem?_eq_none (by simp [bv_size]; omega)]
theorem bv_nil (n : Nat) : List.replicate n (Value.bool false) = (bv n []).toList := by
  unfold bv
  simp
  apply List.ext_getElem?
  intro i
  by_cases h : i < n <;> simp [h]
theorem made_bool (m : Nat) (hm : m ≤ 1000000) (W : World) : (Instr.makeSlice 62 (.int .i64 (m : Int)) (.int .i64 (m : Int))).run Try.prog W = .ok (.slice (some ⟨W.heap.size, 0, none⟩) m m) (W.alloc (.cells (bv m []) 4)) := by
  obtain ⟨i0, hi, hz0, hz1, hz2⟩ := info_parts Try.infoBool
  have h := run_makeSlice (P := Try.prog) (w := W) 62 4 i0 (.bool false) Try.underlying62 hi hz0 .i64 .i64 (m : Int) (m : Int) (by omega) (by omega) (by rw [hz1]; omega) (by rw [hz2]; omega) (by omega)
  rw [h]
  simp only [Int.toNat_natCast, hz1, Nat.mul_one]
  refine congrArg (fun c => Result.ok (Value.slice (some ⟨W.heap.size, 0, none⟩) m m) (W.alloc (.cells c 4))) ?_
  apply Array.toList_inj.1
  rw [show (Value.bool false).cells = #[.bool false] from rfl, toList_madeCells_one, bv_nil]
/-- the tally in memory -/
structure Tl (w : World) (T g mb n : Nat) (y : Ty) : Prop where
  box : w.heap[T]? = some (.cells #[.int .i64 y.bytes, .slice (some ⟨g, 0, none⟩) n n, .map (some mb)] tyY)
  met : w.heap[g]? = some (.cells (bv n y.met) 4)
  map : SMp w mb y.beg
theorem Tl.keep {w w' : World} {T g mb n : Nat} {y : Ty} (h : Tl w T g mb n y) (e : ∀ k, k < w.heap.size → w'.heap[k]? = w.heap[k]?) : Tl w' T g mb n y :=
  ⟨(e _ (Array.getElem?_eq_some_iff.1 h.box).1).trans h.box, (e _ (Array.getElem?_eq_some_iff.1 h.met).1).trans h.met, h.map.keep (e _ h.map.lt)⟩
theorem Tl.below {w w' : World} {T g mb n : Nat} {y : Ty} (h : Tl w T g mb n y) (b : Below w.heap.size w w') : Tl w' T g mb n y := h.keep b.block
/-- all but the tally lies as it lay -/
structure Kt (T g mb : Nat) (w w' : World) : Prop where
  os : w'.os = w.os
  tape : w'.tape = w.tape
  output : w'.output = w.output
  size : w.heap.size ≤ w'.heap.size
  block : ∀ k, k < w.heap.size → k ≠ T → k ≠ g → k ≠ mb → w'.heap[k]? = w.heap[k]?
set_option maxRecDepth 100000 in
set_option maxHeartbeats 1000000 in
theorem sizeOfW_any (x : Nd) (da : Option Addr) (dl dc : Nat) (la : Option Addr) (ll lc : Nat) (w : World) (hd : x.data.length = dl) (hb : szP x ≤ 66560) :
    Calls Try.prog 40 #[.agg (na x (.slice da dl dc) (.slice la ll lc))] w fun r w' => r = .returned (.int .i64 (szP x)) ∧ Below w.heap.size w w' := by
  have hB := hide (show Below w.heap.size w (w.alloc (nO x (.slice da dl dc) (.slice la ll lc))) from (Below.refl _ _).alloc (Nat.le_refl _) _)
  unfold szP at hb ⊢
  rw [hd] at hb ⊢
  clear hd
  obtain ⟨kd, md, us, gr, lk, ti, dt, tg, ls, pa⟩ := x
  unfold nO na at *
  simp only at hb hB ⊢
  rw [Int.natCast_add]
  go_enter Try.func40, Try.ntmps40
  go_wp2
  go_ret
  exact ⟨rfl, unhide hB⟩
set_option maxRecDepth 100000 in
set_option maxHeartbeats 1000000 in
theorem nodeOf_any (a : Option Addr) (n cap : Nat) (ns : List Nd) (now i : Int) (w : World) (hg : Ng w a n cap ns) :
    Calls Try.prog 21 #[.agg #[.slice a n cap, .int .i64 now], .int .i64 i] w fun r w' => (∃ da dc la lc, r = .returned (.agg (na (nodeAt ns i) (.slice da (nodeAt ns i).data.length dc) (.slice la (nodeAt ns i).list.length lc)))) ∧ Below w.heap.size w w' := by
  unfold nodeAt
  rw [hg.len]
  by_cases h1 : i < 0
  · rw [if_pos (.inl h1)]
    go_enter Try.func21, Try.ntmps21
    go_wp2
    refine bodyPost_ret (v := .agg (na nz (.slice none 0 0) (.slice none 0 0))) (by simp [results, Try.results21, go_sem]) rfl ⟨⟨none, 0, none, 0, rfl⟩, ?_⟩
    exact ((Below.refl _ _).alloc (Nat.le_refl _) _).alloc (by simp) _
  by_cases h2 : (n : Int) ≤ i
  · rw [if_pos (.inr h2)]
    go_enter Try.func21, Try.ntmps21
    go_wp2
    refine bodyPost_ret (v := .agg (na nz (.slice none 0 0) (.slice none 0 0))) (by simp [results, Try.results21, go_sem]) rfl ⟨⟨none, 0, none, 0, rfl⟩, ?_⟩
    exact ((Below.refl _ _).alloc (Nat.le_refl _) _).alloc (by simp) _
  obtain ⟨k, rfl⟩ : ∃ k : Nat, i = (k : Int) := ⟨i.toNat, by omega⟩
  rw [if_neg (by omega), Int.toNat_natCast]
  have hk : k < n := by omega
  have hk' : (k : Int) < (n : Int) := by omega
  rcases hg.cells with h0 | ⟨b, off, rfl, hb, hcs⟩
  · omega
  obtain ⟨da, dc, la, lc, h10, -, -⟩ := hcs k hk
  obtain ⟨q0, q1, q2, q3, q4, q5, q6, q7, q8, q9⟩ := h10
  clear hg hcs
  generalize (nd ns k).data.length = dl at *
  generalize (nd ns k).list.length = ll at *
  generalize nd ns k = x at *
  obtain ⟨kd, md, us, gr, lk, ti, dt, tg, ls, pa⟩ := x
  simp only at q0 q1 q2 q3 q4 q5 q6 q7 q8 q9
  go_enter Try.func21, Try.ntmps21
  go_wp2
  refine bodyPost_ret (v := .agg (na ⟨kd, md, us, gr, lk, ti, dt, tg, ls, pa⟩ (.slice da dl dc) (.slice la ll lc))) (by simp [results, Try.results21, go_sem]) rfl ⟨⟨da, dc, la, lc, rfl⟩, ?_⟩
  exact ((Below.refl _ _).alloc (Nat.le_refl _) _).alloc (by simp) _
theorem tally_look {w : World} {T g mb n : Nat} {y : Ty} (h : Tl w T g mb n y) : w.cell? ⟨T, 0, none⟩ = some (.int .i64 y.bytes) ∧ w.cell? ⟨T, 1, none⟩ = some (.slice (some ⟨g, 0, none⟩) n n) ∧ w.cell? ⟨T, 2, none⟩ = some (.map (some mb)) ∧ w.frozen? ⟨T, 0, none⟩ = false := by
  refine ⟨?_, ?_, ?_, ?_⟩
  · rw [cell_of_row _ _ _ _ _ _ h.box]; rfl
  · rw [cell_of_row _ _ _ _ _ _ h.box]; rfl
  · rw [cell_of_row _ _ _ _ _ _ h.box]; rfl
  · simp [World.frozen?, h.box]
theorem met_look {w : World} {T g mb n : Nat} {y : Ty} (h : Tl w T g mb n y) (k : Nat) (hk : k < n) : w.cell? ⟨g, k, none⟩ = some (.bool (decide (k ∈ y.met))) ∧ w.frozen? ⟨g, k, none⟩ = false := by
  refine ⟨?_, ?_⟩
  · rw [cell_of_row _ _ _ _ _ _ h.met, bv_get _ _ _ hk]
  · simp [World.frozen?, h.met]
theorem tl_ne {w : World} {T g mb n : Nat} {y : Ty} (h : Tl w T g mb n y) : T ≠ g ∧ T ≠ mb ∧ g ≠ mb := by
  obtain ⟨es, clock, hm, _⟩ := h.map
  have h1 := h.box
  have h2 := h.met
  refine ⟨fun e => ?_, fun e => ?_, fun e => ?_⟩
  · rw [e, h2] at h1; injection Option.some.inj h1 with _ q _; exact absurd q (by decide)
  · rw [e, hm] at h1; cases h1
  · rw [e, hm] at h2; cases h2
set_option maxRecDepth 100000 in
set_option maxHeartbeats 1000000 in
theorem add_any (T g mb n : Nat) (y : Ty) (k : Nat) (x : Nd) (da : Option Addr) (dl dc : Nat) (la : Option Addr) (ll lc : Nat) (w : World) (h : Tl w T g mb n y) (hk : k < n) (hd : x.data.length = dl) (hb : szP x ≤ 66560) (h0 : 0 ≤ y.bytes) (h1 : y.bytes ≤ 1000000000000000) :
    Calls Try.prog 22 #[.pointer (some ⟨T, 0, none⟩), .int .i64 k, .agg (na x (.slice da dl dc) (.slice la ll lc))] w fun r w' => r = .returned (.int .i64 (if k ∈ y.met then 0 else (szP x : Int))) ∧ Tl w' T g mb n (if k ∈ y.met then y else ⟨y.bytes + szP x, k :: y.met, y.beg⟩) ∧ Kt T g mb w w' := by
  have HS := hide (fun W => sizeOfW_any x da dl dc la ll lc W hd hb)
  have hk' : (k : Int) < (n : Int) := by omega
  obtain ⟨c0, c1, c2, f0⟩ := tally_look h
  obtain ⟨m0, m1⟩ := met_look h k hk
  have hTl : T < w.heap.size := (Array.getElem?_eq_some_iff.1 h.box).1
  have hgl : g < w.heap.size := (Array.getElem?_eq_some_iff.1 h.met).1
  obtain ⟨n1, n2, n3⟩ := tl_ne h
  have H := hide h
  by_cases q : k ∈ y.met
  · rw [if_pos q, if_pos q]
    rw [decide_eq_true q] at m0
    have hB := hide (show Below w.heap.size w (w.alloc (nO x (.slice da dl dc) (.slice la ll lc))) from (Below.refl _ _).alloc (Nat.le_refl _) _)
    unfold nO na at *
    clear h HS hb hd
    go_enter Try.func22, Try.ntmps22
    go_wp2
    go_ret
    exact ⟨rfl, (unhide H).below (unhide hB), ⟨(unhide hB).os, (unhide hB).tape, (unhide hB).output, (unhide hB).size, fun j hj _ _ _ => (unhide hB).block j hj⟩⟩
  · rw [if_neg q, if_neg q]
    rw [decide_eq_false q] at m0
    obtain ⟨N, hN⟩ : ∃ N, N = nO x (.slice da dl dc) (.slice la ll lc) := ⟨_, rfl⟩
    have HNo := hide hN
    obtain ⟨W1, hW1⟩ : ∃ W1, W1 = (w.setCell ⟨g, k, none⟩ (.bool true)).alloc N := ⟨_, rfl⟩
    have hk1 : ∀ j, j < w.heap.size → j ≠ g → W1.heap[j]? = w.heap[j]? := fun j h1 h2 => by rw [hW1]; exact (Below.heap_alloc _ _ _ (by simpa using h1)).trans (Below.heap_setCell _ _ _ _ (by show j ≠ g; exact h2))
    have hg1 : W1.heap[g]? = some (.cells (bv n (k :: y.met)) 4) := by
      rw [hW1]
      refine (Below.heap_alloc _ _ _ (by simpa using hgl)).trans ?_
      rw [heap_setCell_same _ _ k _ _ _ h.met, bv_set]
    have ho1 : W1.heap[w.heap.size]? = some N := by
      rw [hW1]
      have := heap_alloc_new (w.setCell ⟨g, k, none⟩ (.bool true)) N
      rwa [World.size_setCell] at this
    have hs1 : W1.heap.size = w.heap.size + 1 := by rw [hW1]; simp
    have hT1 := (hk1 T hTl n1).trans h.box
    have hM1 := h.map.keep (hk1 mb h.map.lt (fun e => n3 e.symm))
    have hos : W1.os = w.os ∧ W1.tape = w.tape ∧ W1.output = w.output := by rw [hW1]; exact ⟨rfl, rfl, rfl⟩
    rw [hN] at ho1
    have HK1 := hide hk1
    have Hg1 := hide hg1
    have HT1 := hide hT1
    have HM1 := hide hM1
    have Hos := hide hos
    unfold nO at ho1
    obtain ⟨kd, md, us, gr, lk, ti, dt, tg, ls, pa⟩ := x
    obtain ⟨o0, o1, o2, o3, o4, o5, o6, o7, o8, o9⟩ := node_cells ho1
    simp only at o0 o1 o2 o3 o4 o5 o6 o7 o8 o9
    have hb2 : szP ⟨kd, md, us, gr, lk, ti, dt, tg, ls, pa⟩ ≤ 66560 := hb
    clear ho1 hk1 hg1 hT1 hM1 hos h hd hb
    unfold na at *
    unfold nO na at hN
    simp only at hN HS
    subst hN
    go_enter Try.func22, Try.ntmps22
    go_upto_region 4 with fail
    rw [← hW1]
    clear hW1 c0 c1 c2 f0 m0 m1 HNo
    go_wp2_with fail
    refine (unhide HS _).mono ?_
    rintro r w2 ⟨rfl, b2⟩
    obtain ⟨SZ, hSZ⟩ : ∃ SZ, SZ = szP ⟨kd, md, us, gr, lk, ti, dt, tg, ls, pa⟩ := ⟨_, rfl⟩
    rw [← hSZ] at hb2 ⊢
    have hTl1 : T < W1.heap.size := by omega
    have hT2 := (b2.block T hTl1).trans (unhide HT1)
    have hg2 := (b2.block g (by omega)).trans (unhide Hg1)
    have hm2 := (unhide HM1).keep (b2.block mb (unhide HM1).lt)
    have d0 : w2.cell? ⟨T, 0, none⟩ = some (.int .i64 y.bytes) := by rw [cell_of_row _ _ _ _ _ _ hT2]; rfl
    have e0 : w2.frozen? ⟨T, 0, none⟩ = false := by simp [World.frozen?, hT2]
    have HB2 := hide b2
    have HT2 := hide hT2
    have Hg2 := hide hg2
    have Hm2 := hide hm2
    have hbs := b2.size
    clear b2 hT2 hg2 hm2 HS o0 o1 o2 o3 o4 o5 o6 o7 o8 o9
    replace hSZ := hide hSZ
    have g1 : IntKind.i64.wrap (y.bytes + (SZ : Int)) = y.bytes + (SZ : Int) := by rw [IntWalk.i64_left]; unfold wrap64; omega
    go_wp2
    go_ret
    have hset : ∀ j, j ≠ T → (w2.setCell ⟨T, 0, none⟩ (.int .i64 (y.bytes + (SZ : Int)))).heap[j]? = w2.heap[j]? := fun j hj => Below.heap_setCell _ _ _ _ (by show j ≠ T; exact hj)
    rw [← unhide hSZ]
    refine ⟨rfl, ⟨by rw [heap_setCell_same _ _ 0 _ _ _ (unhide HT2)]; rfl, (hset g (fun e => n1 e.symm)).trans (unhide Hg2), (unhide Hm2).keep (hset mb (fun e => n2 e.symm))⟩, ⟨(unhide HB2).os.trans (unhide Hos).1, (unhide HB2).tape.trans (unhide Hos).2.1, (unhide HB2).output.trans (unhide Hos).2.2, by simp; omega, fun j hj j1 j2 j3 => (hset j j1).trans (((unhide HB2).block j (by omega)).trans (unhide HK1 j hj j2))⟩⟩
set_option maxRecDepth 100000 in
set_option maxHeartbeats 1000000 in
theorem end_any (T g mb n : Nat) (y : Ty) (s : Sp) (w : World) (h : Tl w T g mb n y) (hs : Ok s) (hv : ∀ v, look (keyS s) y.beg = some v → IntKind.i64.wrap (y.bytes - v) = y.bytes - v) :
    Calls Try.prog 23 #[.pointer (some ⟨T, 0, none⟩), .agg (sa s)] w fun r w' => r = .returned (.int .i64 (endV y s)) ∧ Tl w' T g mb n (endY y s) ∧ Kt T g mb w w' := by
  unfold endV endY
  have hok : Ok (keyS s) := ⟨hs.path, hs.node, hs.depth⟩
  obtain ⟨c0, c1, c2, f0⟩ := tally_look h
  have hTl : T < w.heap.size := (Array.getElem?_eq_some_iff.1 h.box).1
  have hgl : g < w.heap.size := (Array.getElem?_eq_some_iff.1 h.met).1
  obtain ⟨n1, n2, n3⟩ := tl_ne h
  obtain ⟨W1, hW1⟩ : ∃ W1, W1 = w.alloc (.cells (sa (keyS s)) tyS) := ⟨_, rfl⟩
  have hb1 : Below w.heap.size w W1 := by rw [hW1]; exact (Below.refl _ _).alloc (Nat.le_refl _) _
  have h1 := h.below hb1
  have HL := hide (h1.map.look (keyS s) hok)
  have HL2 := hide (SMp.look (w := W1.drew) (h1.map.keep rfl) (keyS s) hok)
  have HD := hide (fun ty => h1.map.del (keyS s) hok ty)
  obtain ⟨p, nd, dp, af⟩ := s
  unfold keyS at *
  simp only at hW1 HL HL2 HD hv ⊢
  generalize look ⟨p, nd, dp, false⟩ y.beg = LK at *
  go_enter Try.func23, Try.ntmps23
  go_upto_region 2 with fail
  rw [← hW1]
  have hso : W1.heap[w.heap.size]? = some (.cells (sa ⟨p, nd, dp, false⟩) tyS) := by rw [hW1]; exact heap_alloc_new w _
  obtain ⟨s0, s1, s2, s3, -⟩ := step_look hso
  obtain ⟨d0, d1, d2, e0⟩ := tally_look h1
  simp only at s0 s1 s2 s3
  have h2 : Tl W1.drew T g mb n y := ⟨h1.box, h1.met, h1.map.keep rfl⟩
  have hb2 : Below w.heap.size w W1.drew := ⟨hb1.os, hb1.tape, hb1.output, hb1.size, hb1.block⟩
  have hl := unhide HL2
  have hso2 : W1.drew.heap[w.heap.size]? = some (.cells (sa ⟨p, nd, dp, false⟩) tyS) := hso
  have HDr : Hid (∀ ty, ∃ w', (Builtin.delete_ #[tyM, tyS] ty #[.map (some mb), .agg (sa ⟨p, nd, dp, false⟩)]).run Try.prog W1.drew.drew = .ok (.tuple #[]) w' ∧ SMp w' mb (del ⟨p, nd, dp, false⟩ y.beg) ∧ W1.drew.drew.grownBy w' (some mb)) := fun ty => SMp.del (w := W1.drew.drew) (h1.map.keep rfl) ⟨p, nd, dp, false⟩ hok ty
  have H2 := hide h2
  have HB2 := hide hb2
  clear h1 hb1 c0 c1 c2 f0 h hW1 HL HL2 HD h2 hb2 hso
  cases LK with
  | none =>
    simp only [Option.getD, Option.isSome] at hl
    go_wp2_with fail
    go_region
    go_wp2
    go_ret
    exact ⟨rfl, unhide H2, ⟨(unhide HB2).os, (unhide HB2).tape, (unhide HB2).output, (unhide HB2).size, fun j hj _ _ _ => (unhide HB2).block j hj⟩⟩
  | some v =>
    simp only [Option.getD, Option.isSome] at hl
    have HV := hide (hv v rfl)
    go_wp2_with fail
    go_region
    obtain ⟨W2, hW2⟩ : ∃ W2, W2 = W1.drew := ⟨_, rfl⟩
    rw [← hW2] at H2 HB2 HDr hso2 ⊢
    obtain ⟨w3, hrun, hm3, hg3⟩ := unhide HDr 0
    obtain ⟨s0, s1, s2, s3, -⟩ := step_look hso2
    obtain ⟨d0, d1, d2, e0⟩ := tally_look (unhide H2)
    simp only at s0 s1 s2 s3
    have hb23 := unhide HB2
    have hW2s : w.heap.size < W2.heap.size := (Array.getElem?_eq_some_iff.1 hso2).1
    have k3 : ∀ j, j < W2.heap.size → j ≠ mb → w3.heap[j]? = W2.heap[j]? := fun j hj hne => hg3.block j hj (fun e => hne (Option.some.inj e))
    have hT3 := (k3 T (Array.getElem?_eq_some_iff.1 (unhide H2).box).1 n2).trans (unhide H2).box
    have hg4 := (k3 g (Array.getElem?_eq_some_iff.1 (unhide H2).met).1 n3).trans (unhide H2).met
    have x0 : w3.cell? ⟨T, 0, none⟩ = some (.int .i64 y.bytes) := by rw [cell_of_row _ _ _ _ _ _ hT3]; rfl
    have K3 := hide k3
    have HT3 := hide hT3
    have Hg4 := hide hg4
    have Hm3 := hide hm3
    have Hg3 := hide hg3
    clear hW2 HDr hm3 hg3 hl k3 hT3 hg4 hb23
    go_wp2_with fail
    go_region
    clear hrun hv d0 d1 d2 e0 s0 s1 s2 s3
    have g1 := unhide HV
    go_wp2
    go_ret
    have hg := unhide Hg3
    refine ⟨rfl, ⟨unhide HT3, unhide Hg4, unhide Hm3⟩, ⟨hg.os.trans (unhide HB2).os, hg.tape.trans (unhide HB2).tape, hg.output.trans (unhide HB2).output, Nat.le_trans (unhide HB2).size hg.size, fun j hj _ _ j3 => (unhide K3 j (by omega) j3).trans ((unhide HB2).block j hj)⟩⟩
end Go.Proofs.Ytbajjbgeohbdjaa.Wk
