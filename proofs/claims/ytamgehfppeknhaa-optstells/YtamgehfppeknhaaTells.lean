/- The law OptsTells answers true at every list of flags and every letter: Has and Last answer what the document's own functions answer, and the list stays as it was; no condition but the form's own. -/
import Derived.Test.YtamgehfppeknhaaFlagsRef
import Derived.Test.YtamgehfppeknhaaTwinFlags
import Derived.Test.YtamgehfppeknhaaBeyond
import Derived.Test.YtamgehfppeknhaaOpenFlags
import Derived.ChangeOld
namespace Go.Proofs.Ytamgehfppeknhaa.optsTells
open Go.ChangeShapes Go.WideShapes Go.ChangeAt Go.RowKit Flags

set_option maxHeartbeats 800000 in
theorem walk (a : Option Addr) (len cap : Nat) (L : Nat → Int) (A : Nat → ByteArray) (c : Int) (w : World) (h : Fl w a len L A) (hlen : len ≤ 4611686018427387904) (hA : ∀ i, i < len → (A i).size ≤ 4611686018427387904) :
    Calls Try.prog 3 #[.slice a len cap, .int .u8 c] w fun e w' => e = .returned (.bool true) ∧ Below w.heap.size w w' := by
  go_enter Try.func3, Try.ntmps3
  go_wp2_with fail
  refine (size_any a len cap L A _ h hlen hA).mono ?_
  rintro e w1 ⟨⟨v, rfl, hv1, hv2⟩, rfl⟩
  by_cases hb : 1048576 < v
  · go_wp2_with fail
    refine (Beyond.beyond_one v _ _ (by simp) (by omega) (by omega)).mono ?_
    rintro e w2 ⟨rfl, rfl⟩
    go_wp2_with fail
    go_ret
    exact ⟨rfl, by repeat (first | exact Below.refl _ _ | apply Below.setCell | apply Below.alloc | simp)⟩
  · go_wp2_with fail
    refine (Beyond.beyond_one v _ _ (by simp) (by omega) (by omega)).mono ?_
    rintro e w2 ⟨rfl, rfl⟩
    go_wp2_with fail
    obtain ⟨W, hW⟩ : ∃ W, W = w1.alloc (.cells #[.int .i64 v] 3) := ⟨_, rfl⟩
    have hBW : Below w1.heap.size w1 W := by rw [hW]; exact (Below.refl _ _).alloc (Nat.le_refl _) _
    have hF : Hid (Fl W a len L A) := h.below hBW
    rw [← hW]
    clear hW h
    refine (twin_any a len cap L A W hF (by omega)).mono ?_
    rintro e w3 ⟨rfl, htw, hb3, hs3⟩
    have hF3 : Hid (Fl w3 a len L A) := (unhide hF).below hb3
    have hT3 : Hid (Flags.Twin w3 W.heap.size len L A) := htw
    have hB3 : Below w1.heap.size w1 w3 := hBW.trans (hb3.mono hBW.size)
    clear hF htw hb3 hBW
    go_wp2_with fail
    refine (last_any _ len _ L A c w3 (.inr ⟨_, _, rfl, (unhide hT3).1, hs3⟩) hlen).mono ?_
    rintro e w4 ⟨rfl, rfl⟩
    go_wp2_with fail
    refine (refLast_any _ len _ L A c _ (unhide hF3) hlen).mono ?_
    rintro e w4 ⟨rfl, rfl⟩
    go_wp2_with fail
    refine (has_any _ len _ L A c _ (.inr ⟨_, _, rfl, (unhide hT3).1, hs3⟩) hlen).mono ?_
    rintro e w5 ⟨rfl, hb5⟩
    have hF5 : Hid (Fl w5 a len L A) := (unhide hF3).below hb5
    have hT5 : Hid (Flags.Twin w5 W.heap.size len L A) := (unhide hT3).below hs3 hb5
    have hB5 : Below w1.heap.size w1 w5 := hB3.trans (hb5.mono hB3.size)
    have hs5 := hb5.size
    clear hF3 hT3 hB3 hb5
    go_wp2_with fail
    refine (refHas_any _ len _ L A c _ (unhide hF5) hlen).mono ?_
    rintro e w6 ⟨rfl, rfl⟩
    go_wp2_with fail
    refine (left_any _ _ _ len L A _ (unhide hF5) (by omega) (unhide hT5) (by omega)).mono ?_
    rintro e w7 ⟨rfl, hb7⟩
    have hB7 : Below w1.heap.size w1 w7 := hB5.trans (hb7.mono hB5.size)
    clear hB5 hb7 hF5 hT5
    go_wp2_with fail
    go_ret
    exact ⟨rfl, hB7⟩

theorem own : ownKnob Try.prog.godebug = none := by kernel_rfl
theorem laidOut : laidOutB Try.prog = true := by kernel_rfl

set_option maxRecDepth 100000 in
theorem lifted (os : Os) (started : os.Started) (H : Type) (enc : TypeId × Value → H) :
    ReturnsInHanded {} Try.checked os 3 .any (Rows.optsTellsSpec.pre6 enc Try.prog Try.f3 Rows.optsTellsRow.domain false) (Rows.optsTellsSpec.post enc Try.prog Try.f3 false true false false) := by
  refine returnsInHanded_of_change_sized (C := Try.checked) own started (by kernel_rfl) Try.func3
    (ChangeSpec.witness6 (enc := enc) (C := Try.checked) false ⟨#[], #[.slice none 0 0, .int .u8 0], []⟩ 8 (by kernel_rfl) (by kernel_rfl) (by kernel_rfl) (by kernel_rfl)) ?_
  intro W base args ds gs before hval0 hW hcnd hsz0 _
  have hval : ∀ (j : Nat) t v, Try.f3.params[j]? = some t → args[j]? = some v → Value.okWide Try.prog W .any base t v := hval0
  have hW' := hW
  obtain ⟨p, q, hA0, hV, rfl, hfz, hnd⟩ := hW
  have hA : DataW.TrodAll enc Try.prog W 0 (fun _ => true) true Try.f3.params.toList args.toList ds p := hA0
  have hsz : (DataW.weightsEach Try.prog (Try.f3.params.toList ++ Rows.optsTellsSpec.plain.varTypes Try.prog) (ds ++ gs)).all (· ≤ reachBytes) = true := hsz0
  rw [Try.params3] at hA hval hsz
  obtain ⟨v0, vs0, d0, ds0, p0, q0, hargs, rfl, rfl, h0, r0⟩ := trodAll_cons hA
  obtain ⟨v1, vs1, d1, ds1, p1, q1, rfl, rfl, rfl, h1, r1⟩ := trodAll_cons r0
  obtain ⟨rfl, rfl, rfl⟩ := trodAll_nil r1
  obtain rfl : args = #[v0, v1] := by cases args; simp_all
  obtain ⟨rfl, rfl⟩ := trodVars_none hV
  obtain ⟨a0, len0, cap0, rfl⟩ := okWide_slice Try.underlying22 (hval 0 22 v0 rfl rfl)
  have k0 := h0
  have lt0 : ∀ x ∈ p0, x.block < W.heap.size := by obtain ⟨m, hm⟩ := k0; exact DataW.trod_lt m _ _ _ hm
  have z0 : ∀ n ∈ d0.weights Try.prog 22, n ≤ reachBytes := fun n hn =>
    of_decide_eq_true (List.all_eq_true.1 hsz n (DataW.weights_mem_each (j := 0) (t := 22) (d := d0) rfl rfl n hn))
  obtain ⟨L, A, hFl, hAs, hls, hLb⟩ : ∃ (L : Nat → Int) (A : Nat → ByteArray), Fl W a0 len0 L A ∧ (∀ i, i < len0 → (A i).size ≤ reachBytes) ∧ len0 * 24 ≤ reachBytes ∧ ∀ i, i < len0 → 0 ≤ L i ∧ L i < 256 := by
    obtain ⟨fuel, hf⟩ := h0
    exact open_flags hf z0
  obtain ⟨a1, rfl, rfl, rfl, w1⟩ := open_int Try.underlying5 (hval 1 5 v1 rfl rfl) h1
  clear hA0 hval0
  refine (walk a0 len0 cap0 L A a1 W hFl (by unfold reachBytes at hls; omega) (fun i hi => by have := hAs i hi; unfold reachBytes at this; omega)).mono fun e W' ⟨he, bel⟩ => ?_
  subst he
  exact ⟨_, rfl, _, _, _, [], _, [], hW', trodAll_mk1 (shut_bool Try.underlying4 _), (trodAll_cons_mk (Below.trod laidOut (by kernel_rfl) (of_decide_eq_true (by kernel_rfl)) k0 bel lt0) (trodAll_cons_mk (shut_int Try.underlying5 w1) trodAll_mk0)), rfl, bel.frame _, fun h => by cases h⟩

theorem over : Rows.optsTellsRow.holds Try.pinned (OpenSpec.ofChange Rows.optsTellsSpec) :=
  OpenClaim.holds_of_wide 3 Try.f3 rfl rfl rfl rfl rfl rfl rfl ⟨rfl, rfl, rfl, rfl, rfl⟩ rfl rfl rfl rfl rfl (by kernel_rfl) Try.func3 (by kernel_rfl)
    (of_decide_eq_true (by kernel_rfl)) (by unfold Func.isWrapper; first | (rw [if_pos (by decide +kernel)]; kernel_rfl) | (rw [if_neg (by decide +kernel)]; exact ⟨rfl, rfl⟩))
    (fun os started H enc _ => lifted os started H enc)
end Go.Proofs.Ytamgehfppeknhaa.optsTells

namespace Go.Proofs.Ytamgehfppeknhaa
theorem optsTells_holds : Rows.OptsTellsSaid := optsTells.over
#print axioms optsTells_holds
end Go.Proofs.Ytamgehfppeknhaa
