/- What was got is put as the bytes that it had: calls, trees. -/
import Derived.Test.YtbofidpoajdcmaaCdGetT
import Derived.Test.YtbofidpoajdcmaaCdPutT
import Derived.Test.YtbofidpoajdcmaaCdLives
import Derived.Test.YtbofidpoajdcmaaCdSame
import Derived.Deep.DeepCutAuto
import Derived.Deep.CutBlock
namespace Go.Proofs.Ytbofidpoajdcmaa.Cd
open Go.RowKit Cu Tr

theorem put_len {l x r : Bs} (h : l = x ++ r) : ((l.length : Int) - (r.length : Int)) = (x.length : Int) ∧ x.length ≤ l.length ∧ l.take x.length = x := by
  subst h
  refine ⟨by rw [List.length_append]; omega, by rw [List.length_append]; omega, List.take_left⟩
theorem szs_of {ns : List Nd} (h : mayTree ns = true) : ∀ k, k < ns.length → Szs (nd ns k) := fun k hk => by
  obtain ⟨_, h2⟩ := mayTree_all h
  obtain ⟨m1, m2, m3⟩ := mayNode_all (h2 (nd ns k) (by simp [nd, List.getD, List.getElem?_eq_getElem hk]))
  obtain ⟨m4, m5⟩ := mayEnts_all m3
  refine ⟨by omega, fun j hj => ?_⟩
  have := m5 (en (nd ns k).list j) (by simp [en, List.getD, List.getElem?_eq_getElem hj])
  omega
theorem ng_of9 {w : World} {B : Nat} {v : Value} {L : List Nv} (h : RowN B v L w) (ho : ∀ x ∈ L, Hd B w x) : ∃ a cap, v = .slice a L.length cap ∧ Ng w a L.length cap (L.map (·.1)) := ng_of_own h fun x hx => ox_of (ho x hx)
set_option maxHeartbeats 4000000 in
set_option maxRecDepth 100000 in
theorem again_walk (a : Option Addr) (n cap : Nat) (l : Bs) (w : World) (hB : By w a n cap l) (hn : n ≤ 9223372036854775807) :
    Calls Try.prog 5 #[.slice a n cap] w fun e w' => e = .returned (.bool true) ∧ Below w.heap.size w w' := by
  have HB := hide hB
  have hle := hB.le
  have HLN := hide hB.len
  clear hB
  by_cases hb : n ≤ 200000
  · have hb' : ¬ (200000 : Int) < (n : Int) := by omega
    have G1 := hide (get_any a n cap l w (unhide HB) (by omega))
    unfold GetR at G1
    go_enter Try.func5, Try.ntmps5
    go_wp2_with fail
    refine (unhide G1).mono ?_
    rintro e w1 ⟨hb1, hm⟩
    have B1 := hide ((unhide HB).below hb1)
    have b1 := hide hb1
    have HM := hide hm
    clear hb1 hm G1
    have HX : Hid (∃ c da N dc k er, e = .returned (.tuple #[.agg (ca c (.slice da N dc)), .int .i64 k, .int .i64 er]) ∧ (er = 0 ∧ N = c.data.length ∧ (∃ r, getP l = some (c, r) ∧ k = (l.length : Int) - (r.length : Int)) ∧ Row w.heap.size (.slice da N dc) c.data w1 ∨ er = 5)) := by
      have hm := unhide HM
      cases hg : getP l with
      | none => rw [hg] at hm; exact ⟨caz, none, 0, 0, _, _, hm, .inr rfl⟩
      | some p =>
        obtain ⟨c, r⟩ := p
        rw [hg] at hm
        obtain ⟨d, he, hR⟩ := hm
        obtain ⟨da, dc, rfl⟩ := row_slice hR
        exact ⟨c, da, _, dc, _, _, he, .inl ⟨rfl, rfl, ⟨r, rfl, rfl⟩, hR⟩⟩
    obtain ⟨c, da, N, dc, k, er, rfl, hc⟩ := unhide HX
    have HC := hide hc
    clear HX HM hc
    go_upto_if 22 with fail
    go_cut [4, 6, 7] (fun v4 v6 v7 wx => v4 = v4 ∧ v6 = v6 ∧ v7 = v7 ∧ Hid (By wx a n cap l) ∧ Hid (Below w.heap.size w wx))
    case first =>
      have hb2 := below_new w1 (.cells (ca c (.slice da N dc)) 33)
      have B2 := hide ((unhide B1).below hb2)
      have b2 := hide ((unhide b1).trans (hb2.mono (unhide b1).size))
      rcases unhide HC with ⟨rfl, rfl, ⟨r, hg, rfl⟩, hR⟩ | rfl
      · obtain ⟨hmay, hl⟩ := getP_un hg
        obtain ⟨e1, e2, e3⟩ := put_len hl
        rw [e1]
        have hD : By w1 da c.data.length dc c.data := by
          obtain ⟨a9, c9, q1, q2, _⟩ := row_by hR
          injection q1 with q1 _ q2'
          subst q1 q2'
          exact q2
        have hm3 := hmay
        simp only [mayPut, Bool.and_eq_true, decide_eq_true_eq] at hm3
        have P := hide (put_any c da dc (w1.alloc (.cells (ca c (.slice da c.data.length dc)) 33)) (hD.below hb2) (by omega) (by omega))
        unfold PutR at P
        rw [if_pos hmay, if_pos hmay] at P
        have HLT := hide e3
        have hpn : (putP c).length ≤ n := by rw [← unhide HLN]; exact e2
        obtain ⟨m, hmm⟩ : ∃ m, m = (putP c).length := ⟨_, rfl⟩
        rw [← hmm] at hpn ⊢
        have HMM := hide hmm
        obtain ⟨kd, pa, ot, mo, us, gr, ti, dta, eu, eg, em, ed⟩ := c
        simp only at P HLT HMM B2 b2
        clear e1 e2 e3 hl hg hR hD hm3 hmay hmm HC hb2 B1 b1
        go_wp2_with fail
        refine (unhide P).mono ?_
        rintro e w3 ⟨⟨v, rfl, hR3⟩, hb3⟩
        have B3 := hide ((unhide B2).below hb3)
        have b3 := hide ((unhide b2).trans (hb3.mono (unhide b2).size))
        obtain ⟨va, vc, rfl, hV, _⟩ := row_by hR3
        rw [← unhide HMM] at hV ⊢
        have hmn : ¬ (n : Int) < (m : Int) := by omega
        have hmc : m ≤ cap := by omega
        have hT := by_take (unhide B3) m hpn
        rw [show l.take m = putP ⟨kd, pa, ot, mo, us, gr, ti, dta, eu, eg, em, ed⟩ by rw [unhide HMM]; exact unhide HLT] at hT
        have S := hide (sameB_yes va a m vc cap _ w3 hV hT (by omega))
        clear hR3 hb3 P hV hT B2 b2
        go_wp2_with fail
        refine (unhide S).mono ?_
        rintro e w4 ⟨rfl, hb4⟩
        have B4 := hide ((unhide B3).below hb4)
        have b4 := hide ((unhide b3).trans (hb4.mono (unhide b3).size))
        clear S hb4 B3 b3
        go_wp2_with fail
        go_meet
        exact ⟨trivial, trivial, trivial, B4, b4⟩
      · clear HC hb2
        go_wp2_with fail
        go_meet
        exact ⟨trivial, trivial, trivial, B2, b2⟩
    case rest =>
      obtain ⟨-, -, -, HB2, hbl2⟩ := hcut
      clear HB B1 b1 HC
      have G2 := hide (getTree_any a n cap l wc (unhide HB2) (by omega))
      unfold GetTR at G2
      go_wp2_with fail
      refine (unhide G2).mono ?_
      rintro e w5 ⟨hb5, hm⟩
      have B5 := hide ((unhide HB2).below hb5)
      have b5 := hide ((unhide hbl2).trans (hb5.mono (unhide hbl2).size))
      have HM := hide hm
      clear hb5 hm G2 HB2 hbl2
      have HX : Hid ((∃ (z : Int) (r : Bs) (va : Option Addr) (N vc : Nat) (ns : List Nd), e = .returned (.tuple #[.agg #[.slice va N vc, .int .i64 z], .int .i64 ((l.length : Int) - (r.length : Int)), .int .i64 0]) ∧ ns.length = N ∧ treeP l = some ((z, ns), r) ∧ Ng w5 va N vc ns) ∨ e = .returned (.tuple #[.agg #[.slice none 0 0, .int .i64 0], .int .i64 0, .int .i64 5])) := by
        have hm := unhide HM
        cases hg : treeP l with
        | none => rw [hg] at hm; exact .inr hm
        | some p =>
          obtain ⟨⟨z, ns⟩, r⟩ := p
          rw [hg] at hm
          obtain ⟨v, L, he, hL, hR, hO, _⟩ := hm
          obtain ⟨va, vc, rfl, hN⟩ := ng_of9 hR hO
          rw [hL] at hN
          exact .inl ⟨z, r, va, L.length, vc, ns, he, by rw [← hL, List.length_map], rfl, hN⟩
      rcases unhide HX with ⟨z, r, va, N, vc, ns, rfl, hNl, hg, hN⟩ | rfl
      · subst hNl
        obtain ⟨hmay, hl⟩ := treeP_un hg
        obtain ⟨e1, e2, e3⟩ := put_len hl
        rw [e1]
        have hb6 := below_new w5 (.cells #[.slice va ns.length vc, .int .i64 z] 43)
        have P := hide (putTree_any z ns va vc (w5.alloc (.cells #[.slice va ns.length vc, .int .i64 z] 43)) (hN.below hb6) (szs_of hmay))
        unfold PutTR at P
        rw [if_pos hmay, if_pos hmay] at P
        have B6 := hide ((unhide B5).below hb6)
        have b6 := hide ((unhide b5).trans (hb6.mono (unhide b5).size))
        have HLT := hide e3
        have hpn : (treeB z ns).length ≤ n := by rw [← unhide HLN]; exact e2
        obtain ⟨m, hmm⟩ : ∃ m, m = (treeB z ns).length := ⟨_, rfl⟩
        rw [← hmm] at hpn ⊢
        have HMM := hide hmm
        clear e1 e2 e3 hl hg hN hmay hmm hb6 HX HM B5 b5
        go_wp2_with fail
        refine (unhide P).mono ?_
        rintro e w7 ⟨⟨v, rfl, hR3⟩, hb3⟩
        have B3 := hide ((unhide B6).below hb3)
        have b3 := hide ((unhide b6).trans (hb3.mono (unhide b6).size))
        obtain ⟨xa, xc, rfl, hV, _⟩ := row_by hR3
        rw [← unhide HMM] at hV ⊢
        have hmn : ¬ (n : Int) < (m : Int) := by omega
        have hmc : m ≤ cap := by omega
        have hT := by_take (unhide B3) m hpn
        rw [show l.take m = treeB z ns by rw [unhide HMM]; exact unhide HLT] at hT
        have S := hide (sameB_yes xa a m xc cap _ w7 hV hT (by omega))
        clear hR3 hb3 P hV hT B6 b6
        go_wp2_with fail
        refine (unhide S).mono ?_
        rintro e w8 ⟨rfl, hb4⟩
        have b4 := hide ((unhide b3).trans (hb4.mono (unhide b3).size))
        clear S hb4 B3 b3
        go_wp2_with fail
        refine (lives_any w8).mono ?_
        rintro e w9 ⟨rfl, hb⟩
        have b9 := hide ((unhide b4).trans (hb.mono (unhide b4).size))
        clear hb
        go_wp2_with fail
        go_ret
        exact ⟨rfl, unhide b9⟩
      · have hb6 := below_new w5 (.cells #[.slice none 0 0, .int .i64 0] 43)
        have b6 := hide ((unhide b5).trans (hb6.mono (unhide b5).size))
        clear hb6 HX HM B5 b5
        go_wp2_with fail
        refine (lives_any _).mono ?_
        rintro e w9 ⟨rfl, hb⟩
        have b9 := hide ((unhide b6).trans (hb.mono (unhide b6).size))
        clear hb
        go_wp2_with fail
        go_ret
        exact ⟨rfl, unhide b9⟩
  · have hb' : (200000 : Int) < (n : Int) := by omega
    go_enter Try.func5, Try.ntmps5
    go_wp2_with fail
    refine (lives_any w).mono ?_
    rintro e w9 ⟨rfl, hb⟩
    have b9 := hide hb
    clear hb
    go_wp2_with fail
    go_ret
    exact ⟨rfl, unhide b9⟩
end Go.Proofs.Ytbofidpoajdcmaa.Cd
