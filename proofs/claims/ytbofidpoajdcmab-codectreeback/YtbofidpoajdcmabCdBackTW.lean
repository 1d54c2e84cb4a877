/- A tree that was put is got, with whatever stands behind it. -/
import Derived.Test.YtbofidpoajdcmabCdSameT
import Derived.Test.YtbofidpoajdcmabCdOpenT
import Derived.Test.YtbofidpoajdcmabCdLives
namespace Go.Proofs.Ytbofidpoajdcmab.Cd
open Go.RowKit Cu Tr

theorem treeB_le {now : Int} {ns : List Nd} (h : mayTree ns = true) : (treeB now ns).length ≤ 40000000000 := by
  have := nodes_take_le h ns.length
  rw [List.take_length] at this
  simp only [treeB, List.length_append, numsB_len, lenB_len, List.length_cons, List.length_nil]
  omega
theorem szs_rb {ns : List Nd} (h : ∀ i, i < ns.length → Rb9 (nd ns i)) : ∀ k, k < ns.length → Szs (nd ns k) := fun k hk =>
  ⟨by have := (h k hk).tg; omega, fun j hj => by have := (h k hk).nm j hj; omega⟩
theorem dat_may {ns : List Nd} (h : mayTree ns = true) : ∀ k, k < ns.length → (nd ns k).data.length ≤ 4611686018427387904 ∧ (nd ns k).list.length ≤ 4611686018427387904 := fun k hk => by
  obtain ⟨_, h2⟩ := mayTree_all h
  obtain ⟨m1, m2, m3⟩ := mayNode_all (h2 (nd ns k) (by simp [nd, List.getD, List.getElem?_eq_getElem hk]))
  obtain ⟨m4, m5⟩ := mayEnts_all m3
  omega
theorem wf_mem {ns : List Nd} (h : ∀ i, i < ns.length → WfN (nd ns i)) : ∀ n ∈ ns, WfN n := fun n hn => by
  obtain ⟨k, hk, rfl⟩ := List.mem_iff_getElem.1 hn
  have := h k hk
  simpa [nd, List.getD, List.getElem?_eq_getElem hk] using this
theorem getT_some {l r : Bs} {now : Int} {ns : List Nd} (h : treeP l = some ((now, ns), r)) (a : Option Addr) (n cap : Nat) (w : World) (hB : By w a n cap l) (hn : n ≤ 4611686018427387904) :
    Calls Try.prog 8 #[.slice a n cap] w fun e w' => (∃ (va : Option Addr) (vc : Nat), e = .returned (.tuple #[.agg #[.slice va ns.length vc, .int .i64 now], .int .i64 ((l.length : Int) - (r.length : Int)), .int .i64 0]) ∧ Ng w' va ns.length vc ns) ∧ Below w.heap.size w w' := by
  refine (getTree_any a n cap l w hB hn).mono ?_
  rintro e w' ⟨hb, he⟩
  rw [h] at he
  obtain ⟨v, L, he, hL, hR, hO, _⟩ := he
  obtain ⟨va, vc, rfl, hN⟩ : ∃ a cap, v = .slice a L.length cap ∧ Ng w' a L.length cap (L.map (·.1)) := ng_of_own hR fun x hx => ox_of (hO x hx)
  have hl : L.length = ns.length := by rw [← hL, List.length_map]
  rw [hl, hL] at hN
  rw [hl] at he
  exact ⟨⟨va, vc, he, hN⟩, hb⟩
set_option maxHeartbeats 4000000 in
set_option maxRecDepth 100000 in
theorem treeBack_walk (a : Option Addr) (len cap : Nat) (now : Int) (ns : List Nd) (ba : Option Addr) (n bc : Nat) (l : Bs) (w : World) (hN : Ng w a len cap ns) (hlen : len ≤ 281474976710656) (hr : ∀ i, i < len → Rb9 (nd ns i) ∧ WfN (nd ns i)) (hw : inR now) (hB : By w ba n bc l) (hn : n ≤ 9223372036854775807) :
    Calls Try.prog 3 #[.agg #[.slice a len cap, .int .i64 now], .slice ba n bc] w fun e w' => e = .returned (.bool true) ∧ Below w.heap.size w w' := by
  obtain ⟨i0, hi, hz0, hz1, hz2⟩ := info_parts Try.infoByte
  obtain rfl := hN.len
  obtain ⟨O, hO⟩ : ∃ O : Obj, O = .cells #[.slice a ns.length cap, .int .i64 now] 24 := ⟨_, rfl⟩
  have n0 := below_new w O
  have D0 := heap_alloc_new w O
  have hl0 : w.heap.size < (w.alloc O).heap.size := by simp
  have T := hide (treeSize9_any a ns.length cap now ns (w.alloc O) (hN.below n0) hlen (fun i hi => (hr i hi).1))
  have N0 := hide (hN.below n0)
  have B0 := hide (hB.below n0)
  have b0 := hide n0
  have hDD : Hid ((w.alloc O).heap[w.heap.size]? = some O) := D0
  have HR := hide hr
  have HW := hide hw
  subst hO
  clear hN hB n0 D0 hr hw
  go_enter Try.func3, Try.ntmps3
  go_wp2_with fail
  refine (unhide T).mono ?_
  rintro e w1 ⟨⟨r, rfl, hrb⟩, hb⟩
  have b1 := hide ((unhide b0).trans (hb.mono (by simp)))
  have N1 := hide ((unhide N0).below hb)
  have B1 := hide ((unhide B0).below hb)
  have D1 := hide ((hb.block _ hl0).trans (unhide hDD))
  have hw1 : w.heap.size < w1.heap.size := Nat.lt_of_lt_of_le hl0 hb.size
  clear T hb N0 B0 b0 hDD hl0
  by_cases hr2 : r ≤ 200000
  case neg =>
    have hr2' : (200000 : Int) < (r : Int) := by omega
    go_wp2_with fail
    refine (lives_any w1).mono ?_
    rintro e w9 ⟨rfl, hb⟩
    have b9 := hide ((unhide b1).trans (hb.mono (unhide b1).size))
    clear hb
    go_wp2_with fail
    go_ret
    exact ⟨rfl, unhide b9⟩
  have hr2' : ¬ (200000 : Int) < (r : Int) := by omega
  by_cases hn2 : n ≤ 20000
  case neg =>
    have hn2' : (20000 : Int) < (n : Int) := by omega
    go_wp2_with fail
    refine (lives_any w1).mono ?_
    rintro e w9 ⟨rfl, hb⟩
    have b9 := hide ((unhide b1).trans (hb.mono (unhide b1).size))
    clear hb
    go_wp2_with fail
    go_ret
    exact ⟨rfl, unhide b9⟩
  have hn2' : ¬ (20000 : Int) < (n : Int) := by omega
  have k0 : w1.cell? ⟨w.heap.size, 0, none⟩ = some (.slice a ns.length cap) := by rw [cell_of_row _ _ _ _ _ _ (unhide D1)]; rfl
  have k1 : w1.cell? ⟨w.heap.size, 1, none⟩ = some (.int .i64 now) := by rw [cell_of_row _ _ _ _ _ _ (unhide D1)]; rfl
  have P := hide (putTree_any now ns a cap w1 (unhide N1) (szs_rb (fun i hi => (unhide HR i hi).1)))
  unfold PutTR at P
  go_wp2_with fail
  refine (unhide P).mono ?_
  rintro e w2 ⟨⟨v, rfl, hR⟩, hb⟩
  have b2 := hide ((unhide b1).trans (hb.mono (unhide b1).size))
  have N2 := hide ((unhide N1).below hb)
  have B2 := hide ((unhide B1).below hb)
  have D2 := hide ((hb.block _ hw1).trans (unhide D1))
  clear P hb N1 B1 b1 D1 k0 k1 hw1
  by_cases hm : mayTree ns = true
  · rw [if_pos hm] at hR ⊢
    obtain ⟨va, vc, rfl, hV, _⟩ := row_by hR
    have V2 := hide hV
    have HP := hide (treeP_put now ns l hm (unhide HW) (wf_mem (fun i hi => (unhide HR i hi).2)))
    have hle := treeB_le (now := now) hm
    have HM := hide (dat_may hm)
    have h513 := (mayTree_all hm).1
    clear hR hV hm
    generalize treeB now ns = pc at *
    obtain ⟨m, hml⟩ : ∃ m, m = pc.length := ⟨_, rfl⟩
    rw [← hml] at V2 hle ⊢
    have HML := hide hml
    clear hml
    go_wp2_with (first | (at_builtin; refine wpList_append_ontoA rfl _ _ 25 rfl w2.heap.size 5 i0 _ 1 1 Try.underlying25 hi hz0 hz1 hz2 rfl (by decide) _ 0 [] rfl (row_nil w2 _) va m vc (Lib.byteCells pc) rfl (unhide V2).nil (by have := (unhide V2).len; simp [Lib.byteCells]; omega) (By.news (unhide V2)) (byteCells_one pc) (by unfold maxLen; omega) (by omega) (Nat.le_refl _) ?_))
    intro v2 w3 hO2 hG2 _
    have hR2 : Row w2.heap.size v2 pc w3 := by
      have e := unhide HML
      subst e
      simpa [Row] using hO2
    have hb12 : Below w2.heap.size w2 w3 := ⟨hG2.os, hG2.tape, hG2.output, hG2.size, fun k hk => hG2.block k hk (by simp [Value.ownBlock])⟩
    have B3 := hide ((unhide B2).below hb12)
    have V3 := hide ((unhide V2).below hb12)
    obtain ⟨va2, vc2, rfl⟩ := row_slice hR2
    have HR2 := hide hR2
    have S2 := hide hb12.size
    have H12 := hide hb12
    clear hO2 hG2 hR2 hb12
    go_wp2_with (first | (at_builtin; refine wpList_append_ontoA rfl _ _ 25 rfl w2.heap.size 5 i0 _ 1 1 Try.underlying25 hi hz0 hz1 hz2 rfl (by decide) _ pc.length (Lib.byteCells pc) rfl (unhide HR2) ba n bc (Lib.byteCells l) rfl (unhide B3).nil (by have := (unhide B3).len; simp [Lib.byteCells]; omega) (By.news (unhide B3)) (byteCells_one l) (by have := unhide HML; unfold maxLen; omega) (by have := unhide HML; omega) (unhide S2) ?_))
    intro v3 w4 hO3 hG3 _
    have hR3 : Row w2.heap.size v3 (pc ++ l) w4 := row_app (unhide B3).len hO3
    have hb13 : Below w2.heap.size w2 w4 := ⟨hG3.os.trans (unhide H12).os, hG3.tape.trans (unhide H12).tape, hG3.output.trans (unhide H12).output, Nat.le_trans (unhide H12).size hG3.size, fun k hk => (hG3.block k (Nat.lt_of_lt_of_le hk (unhide H12).size) (fun e => by have := row_lo (unhide HR2) k e.symm; omega)).trans ((unhide H12).block k hk)⟩
    have N4 := hide ((unhide N2).below hb13)
    have b4 := hide ((unhide b2).trans (hb13.mono (unhide b2).size))
    have D4 := hide ((hb13.block _ (Array.getElem?_eq_some_iff.1 (unhide D2)).1).trans (unhide D2))
    obtain ⟨va3, vc3, rfl, hY3, _⟩ := row_by hR3
    have e3 : (pc ++ l).length = m + n := by rw [List.length_append, ← unhide HML, (unhide B3).len]
    have hln := (unhide B3).len
    rw [e3] at hY3
    have G3 := getT_some (unhide HP) va3 (m + n) vc3 w4 hY3 (by omega)
    rw [e3, hln, show (((m + n : Nat) : Int) - (n : Int)) = (m : Int) by omega] at G3
    have HG3 := hide G3
    rw [e3]
    clear hO3 hG3 hR3 hb13 B2 N2 V2 b2 D2 H12 HR2 B3 V3 hY3 e3 G3 S2 hln HP
    go_wp2_with fail
    refine (unhide HG3).mono ?_
    rintro e w5 ⟨⟨xa, xc, rfl, hX⟩, hb⟩
    have n6 := below_new w5 (.cells #[.slice xa ns.length xc, .int .i64 now] 24)
    have N5 := hide (((unhide N4).below hb).below n6)
    have X5 := hide (hX.below n6)
    have b5 := (unhide b4).trans (hb.mono (unhide b4).size)
    have b6 := hide (b5.trans (n6.mono b5.size))
    have D5 := (hb.block _ (Array.getElem?_eq_some_iff.1 (unhide D4)).1).trans (unhide D4)
    have hl5 : w.heap.size < w5.heap.size := (Array.getElem?_eq_some_iff.1 D5).1
    have q0 : w5.cell? ⟨w.heap.size, 0, none⟩ = some (.slice a ns.length cap) := by rw [cell_of_row _ _ _ _ _ _ D5]; rfl
    have q1 : w5.cell? ⟨w.heap.size, 1, none⟩ = some (.int .i64 now) := by rw [cell_of_row _ _ _ _ _ _ D5]; rfl
    have ST := hide (sameT_yes xa a ns.length xc cap now ns _ (unhide X5) (unhide N5) (by omega) (unhide HM))
    clear HG3 hX hb n6 N4 b4 b5 D4 D5 N5 X5 HM
    go_wp2_with fail
    refine (unhide ST).mono ?_
    rintro e w7 ⟨rfl, hb⟩
    have b7 := hide ((unhide b6).trans (hb.mono (unhide b6).size))
    clear ST hb b6 q0 q1 hl5
    go_wp2_with fail
    refine (lives_any w7).mono ?_
    rintro e w9 ⟨rfl, hb⟩
    have b9 := hide ((unhide b7).trans (hb.mono (unhide b7).size))
    clear hb
    go_wp2_with fail
    go_ret
    exact ⟨rfl, unhide b9⟩
  · rw [if_neg hm] at hR ⊢
    obtain ⟨va, vc, rfl⟩ := row_slice hR
    rw [List.length_nil]
    clear hR hm
    go_wp2_with fail
    refine (lives_any w2).mono ?_
    rintro e w9 ⟨rfl, hb⟩
    have b9 := hide ((unhide b2).trans (hb.mono (unhide b2).size))
    clear hb
    go_wp2_with fail
    go_ret
    exact ⟨rfl, unhide b9⟩
end Go.Proofs.Ytbofidpoajdcmab.Cd
