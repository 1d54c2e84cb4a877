/- The law ModesJoins: walked. -/
import Derived.Test.YtijknodbaddelabDoorMoAlive
import Derived.Test.YtijknodbaddelabDoorMoSame
namespace Go.Proofs.YtijknodbaddelabDoor.Mo
open Go.RowKit Go.Shelf

theorem wpList_unguard {P : Program} {w : World} {ops : Array Oper} {rest : List Oper} {o : Oper} {a : Act} {Q : Exit → Act → World → Prop} (hw : Region.wanted o (yielded ops a.tmps) = true)
    (h : wpList P ops Q ({ o with guard := none } :: rest) a w) : wpList P ops Q (o :: rest) a w := by
  unfold wpList at h ⊢
  rw [if_pos hw]
  rw [if_pos (by simp [Region.wanted])] at h
  exact h
theorem octd_ne {c : UInt8} (h : octd c = true) : c ≠ 44 := by
  intro e; subst e; revert h; decide
theorem digit_no {c : UInt8} (h : octd c = true) : stepP st0 (c.toNat : Int) = none := by
  have hc : 48 ≤ c.toNat ∧ c.toNat ≤ 55 := by simpa [octd] using h
  have h1 : isOp (c.toNat : Int) = false := by unfold isOp; simp; omega
  have h2 : whoZ (c.toNat : Int) = 0 := by
    unfold whoZ; rw [if_neg (by omega), if_neg (by omega), if_neg (by omega), if_neg (by omega)]
  unfold stepP
  rw [h1]
  simp [st0, h2]
theorem read_clause {s : Bs} {m : Nat} (h : readP s = some m) : clausesP (splitC s) = none := by
  unfold readP at h
  split at h
  · rename_i hh
    obtain ⟨h1, _, h3, _⟩ := hh
    have hall : ∀ c ∈ s, c ≠ 44 := fun c hc => octd_ne (List.all_eq_true.1 h3 c hc)
    rw [splitC_end hall]
    cases s with
    | nil => simp at h1
    | cons c r =>
      have hc : octd c = true := List.all_eq_true.1 h3 c (by simp)
      have : clauseP (c :: r) = none := by unfold clauseP; rw [runP, digit_no hc]
      simp [clausesP, this]
  · cases h
theorem read_comma (s t : Bs) : readP (s ++ 44 :: t) = none := by
  unfold readP
  rw [if_neg]
  rintro ⟨_, _, h3, _⟩
  have := List.all_eq_true.1 h3 44 (by simp)
  revert this; decide
theorem parse_join (s t : Bs) : parse (s ++ 44 :: t) = match clausesP (splitC s), clausesP (splitC t) with
    | some l, some l' => some (l ++ l')
    | _, _ => none := by
  unfold parse
  rw [read_comma]
  simp only
  rw [splitC_two, clausesP_app]
  cases clausesP (splitC s) <;> cases clausesP (splitC t) <;> rfl
/-- both texts are clauses -/
theorem join_yes {s t : Bs} (hs : s.length ≤ 2000) (ht : t.length ≤ 2000) (h1 : readP s = none) (h2 : readP t = none) (h3 : parseE s = 0) (h4 : parseE t = 0) : parseL (s ++ 44 :: t) = parseL s ++ parseL t ∧ parseE (s ++ 44 :: t) = 0 ∧ 1 ≤ (parseL t).length := by
  have p1 : parse s = clausesP (splitC s) := by unfold parse; rw [h1]
  have p2 : parse t = clausesP (splitC t) := by unfold parse; rw [h2]
  have hl : (s ++ 44 :: t).length ≤ 4096 := by simp; omega
  cases e1 : parse s with
  | none => rw [(parse_none (by omega) e1).2] at h3; cases h3
  | some a =>
    cases e2 : parse t with
    | none => rw [(parse_none (by omega) e2).2] at h4; cases h4
    | some b =>
      have hj : parse (s ++ 44 :: t) = some (a ++ b) := by rw [parse_join, ← p1, ← p2, e1, e2]
      obtain ⟨q1, q2⟩ := parse_some hl hj
      have hb := (parse_some (by omega) e2).1
      refine ⟨by rw [q1, (parse_some (by omega) e1).1, hb], q2, ?_⟩
      rw [hb]
      rw [p2] at e2
      cases hx : splitC t with
      | nil => exact absurd hx (splitC_ne t)
      | cons x r =>
        rw [hx, clausesP] at e2
        cases hcx : clauseP x with
        | none => rw [hcx] at e2; simp at e2
        | some l =>
          cases hcr : clausesP r with
          | none => rw [hcx, hcr] at e2; simp at e2
          | some l' =>
            rw [hcx, hcr] at e2
            simp only [Option.some.injEq] at e2
            subst e2
            have : 1 ≤ l.length := by
              unfold clauseP at hcx
              split at hcx
              · cases hcx
              · rename_i st _
                split at hcx
                · rename_i hs; injection hcx with h; subst h
                  obtain ⟨ch, hc⟩ := Option.isSome_iff_exists.1 hs
                  simp [St.all, hc]
                · cases hcx
            simp; omega
theorem join_no {s t : Bs} (hs : s.length ≤ 2000) (ht : t.length ≤ 2000) (h : parseE s ≠ 0 ∨ parseE t ≠ 0 ∨ readP s ≠ none ∨ readP t ≠ none) : parseL (s ++ 44 :: t) = [] ∧ parseE (s ++ 44 :: t) = 5 := by
  have hl : (s ++ 44 :: t).length ≤ 4096 := by simp; omega
  refine parse_none hl ?_
  rw [parse_join]
  have key : clausesP (splitC s) = none ∨ clausesP (splitC t) = none := by
    cases e1 : readP s with
    | some m => exact .inl (read_clause e1)
    | none =>
      cases e2 : readP t with
      | some m => exact .inr (read_clause e2)
      | none =>
        rcases h with h | h | h | h
        · left
          cases e3 : clausesP (splitC s) with
          | none => rfl
          | some l => exact absurd (parse_some (s := s) (l := l) (by omega) (by unfold parse; rw [e1]; exact e3)).2 h
        · right
          cases e3 : clausesP (splitC t) with
          | none => rfl
          | some l => exact absurd (parse_some (s := t) (l := l) (by omega) (by unfold parse; rw [e2]; exact e3)).2 h
        · exact absurd e1 h
        · exact absurd e2 h
  rcases key with h | h
  · rw [h]
  · rw [h]; cases clausesP (splitC s) <;> rfl
theorem readV_some {o : Option Nat} (h : o ≠ none) : ∃ m : Nat, readV o = .tuple #[.int .i64 (m : Int), .bool true] := by
  cases o with
  | none => exact absurd rfl h
  | some m => exact ⟨m, rfl⟩
theorem readV_form (o : Option Nat) : ∃ (n : Int) (b : Bool), readV o = .tuple #[.int .i64 n, .bool b] ∧ (b = true ↔ o ≠ none) := by
  cases o with
  | none => exact ⟨0, false, rfl, by simp⟩
  | some m => exact ⟨m, true, rfl, by simp⟩
theorem bs_join (s t : ByteArray) : bs (s ++ { data := #[44] } ++ t) = bs s ++ 44 :: bs t := by simp [bs]
set_option maxHeartbeats 2000000 in
set_option maxRecDepth 100000 in
theorem joins_walk (s t : ByteArray) (w : World) (hs : s.size ≤ 4611686018427387904) (ht : t.size ≤ 4611686018427387904) :
    Calls Tryd.prog 5 #[.string s, .string t] w fun e w' => e = .returned (.bool true) ∧ Below w.heap.size w w' := by
  obtain ⟨i0, hi0, hz0, hz1, hz2⟩ := info_parts Tryd.infoCh
  have AL := hide (fun W => alive_any W)
  by_cases hbig : 2000 < s.size ∨ 2000 < t.size
  · by_cases h1 : 2000 < (s.size : Int)
    · go_enter Tryd.func5, Tryd.ntmps5
      go_wp2_with fail
      refine (unhide AL _).mono ?_
      rintro e w1 ⟨rfl, hb⟩
      have B1 := hide hb
      clear hb
      go_wp2_with fail
      refine (unhide AL _).mono ?_
      rintro e w2 ⟨rfl, hb⟩
      have B2 := hide ((unhide B1).trans (hb.mono (unhide B1).size))
      clear hb
      go_wp2_with fail
      go_ret
      exact ⟨rfl, unhide B2⟩
    · have h2 : 2000 < (t.size : Int) := by omega
      have hd1 : decide (2000 < (s.size : Int)) = false := by simpa using h1
      go_enter Tryd.func5, Tryd.ntmps5
      go_wp2_with fail
      refine (unhide AL _).mono ?_
      rintro e w1 ⟨rfl, hb⟩
      have B1 := hide hb
      clear hb
      go_wp2_with fail
      refine (unhide AL _).mono ?_
      rintro e w2 ⟨rfl, hb⟩
      have B2 := hide ((unhide B1).trans (hb.mono (unhide B1).size))
      clear hb
      go_wp2_with fail
      go_ret
      exact ⟨rfl, unhide B2⟩
  · have hsz : s.size ≤ 2000 := by omega
    have htz : t.size ≤ 2000 := by omega
    have hlS : (bs s).length ≤ 2000 := by rw [bs_len]; exact hsz
    have hlT : (bs t).length ≤ 2000 := by rw [bs_len]; exact htz
    clear hbig
    obtain ⟨n1, o1, hv1, ho1⟩ := readV_form (readP (bs s))
    obtain ⟨n2, o2, hv2, ho2⟩ := readV_form (readP (bs t))
    have R1 := hide (fun W => read_any s W hs)
    have R2 := hide (fun W => read_any t W ht)
    rw [hv1] at R1
    rw [hv2] at R2
    have hJz : (s ++ { data := #[44] } ++ t : ByteArray).size ≤ 4611686018427387904 := by rw [← bs_len, bs_join]; simp; omega
    have P1 := hide (fun W => parse_any s W hs)
    have P2 := hide (fun W => parse_any t W ht)
    have P3 := hide (fun W => parse_any (s ++ { data := #[44] } ++ t) W hJz)
    rw [bs_join] at P3
    have hc1 : ¬ 9223372036854775807 < s.size + 1 := by omega
    have hc2 : ¬ 9223372036854775807 < s.size + 1 + t.size := by omega
    have HY : Hid (parseE (bs s) = 0 → parseE (bs t) = 0 → o1 = false → o2 = false → parseL (bs s ++ 44 :: bs t) = parseL (bs s) ++ parseL (bs t) ∧ parseE (bs s ++ 44 :: bs t) = 0 ∧ 1 ≤ (parseL (bs t)).length) := fun e1 e2 e3 e4 => by
      have q1 : readP (bs s) = none := by
        cases hq : readP (bs s) with
        | none => rfl
        | some m => rw [ho1.2 (by rw [hq]; simp)] at e3; cases e3
      have q2 : readP (bs t) = none := by
        cases hq : readP (bs t) with
        | none => rfl
        | some m => rw [ho2.2 (by rw [hq]; simp)] at e4; cases e4
      exact join_yes hlS hlT q1 q2 e1 e2
    have HNO : Hid (parseE (bs s) ≠ 0 ∨ parseE (bs t) ≠ 0 ∨ o1 = true ∨ o2 = true → parseL (bs s ++ 44 :: bs t) = [] ∧ parseE (bs s ++ 44 :: bs t) = 5) := fun h => by
      refine join_no hlS hlT ?_
      rcases h with h | h | h | h
      · exact .inl h
      · exact .inr (.inl h)
      · exact .inr (.inr (.inl (ho1.1 h)))
      · exact .inr (.inr (.inr (ho2.1 h)))
    have hLa := parseL_len (bs s)
    have hLb := parseL_len (bs t)
    clear ho1 ho2 hv1 hv2 hlS hlT hJz
    go_enter Tryd.func5, Tryd.ntmps5
    go_wp2_with fail
    refine (unhide AL _).mono ?_
    rintro e w1 ⟨rfl, hb⟩
    have B1 := hide hb
    clear hb AL
    go_wp2_with fail
    refine (unhide R1 _).mono ?_
    rintro e w2 ⟨rfl, hb⟩
    have B2 := hide ((unhide B1).trans (hb.mono (unhide B1).size))
    clear hb R1 B1
    go_wp2_with fail
    refine (unhide R2 _).mono ?_
    rintro e w3 ⟨rfl, hb⟩
    have B3 := hide ((unhide B2).trans (hb.mono (unhide B2).size))
    clear hb R2 B2
    go_wp2_with fail
    refine (unhide P1 _).mono ?_
    rintro e w4 ⟨va, rfl, hOa, hb4⟩
    have B4 := hide ((unhide B3).trans (hb4.mono (unhide B3).size))
    have hz34 := hb4.size
    have hz03 := (unhide B3).size
    have HOa := hide hOa
    obtain ⟨aa, ca, rfl⟩ := row_slice hOa
    clear hb4 P1 hOa B3
    go_wp2_with fail
    refine (unhide P2 _).mono ?_
    rintro e w5 ⟨vb, rfl, hOb, hb5⟩
    have B5 := hide ((unhide B4).trans (hb5.mono (unhide B4).size))
    have HOa5 := hide (own_below (unhide HOa) hb5)
    have hz45 := hb5.size
    have HOb := hide hOb
    have hla : Hid (∀ k, (Value.slice aa (parseL (bs s)).length ca).ownBlock = some k → k < w4.heap.size) := fun k hk => ((unhide HOa).lt k hk).2
    obtain ⟨ab, cb, rfl⟩ := row_slice hOb
    clear hb5 P2 hOb HOa B4
    go_wp2_with fail
    refine (unhide P3 _).mono ?_
    rintro e w6 ⟨vc, rfl, hOc, hb6⟩
    have B6 := hide ((unhide B5).trans (hb6.mono (unhide B5).size))
    have HOa6 := hide (own_below (unhide HOa5) hb6)
    have HOb6 := hide (own_below (unhide HOb) hb6)
    have hz56 := hb6.size
    have HOc := hide hOc
    obtain ⟨ac, cc', rfl⟩ := row_slice hOc
    clear hb6 P3 hOc HOa5 HOb B5
    by_cases hE : (parseE (bs s) ≠ 0 ∨ parseE (bs t) ≠ 0 ∨ o1 = true ∨ o2 = true)
    · obtain ⟨q1, q2⟩ := unhide HNO hE
      have hl0 : (parseL (bs s ++ 44 :: bs t)).length = 0 := by rw [q1]; rfl
      rw [q2, hl0]
      clear q1 q2 hl0 HNO HY HOa6 HOb6 HOc hla
      generalize parseE (bs s) = E1 at *
      generalize parseE (bs t) = E2 at *
      by_cases e1 : E1 = 0
      · subst e1
        by_cases e2 : E2 = 0
        · subst e2
          cases o1
          · cases o2
            · simp at hE
            · clear hE
              go_wp2_with fail
              go_ret
              exact ⟨rfl, unhide B6⟩
          · clear hE
            go_wp2_with fail
            go_ret
            exact ⟨rfl, unhide B6⟩
        · have h2 : (E2 != 0) = true := by simpa using e2
          clear hE e2
          go_wp2_with fail
          go_ret
          exact ⟨rfl, unhide B6⟩
      · have h1 : (E1 != 0) = true := by simpa using e1
        clear hE e1
        go_wp2_with fail
        go_ret
        exact ⟨rfl, unhide B6⟩
    · have e1 : parseE (bs s) = 0 := Decidable.byContradiction fun h => hE (.inl h)
      have e2 : parseE (bs t) = 0 := Decidable.byContradiction fun h => hE (.inr (.inl h))
      obtain rfl : o1 = false := by cases o1; rfl; exact absurd (.inr (.inr (.inl rfl))) hE
      obtain rfl : o2 = false := by cases o2; rfl; exact absurd (.inr (.inr (.inr rfl))) hE
      obtain ⟨q1, q2, q3⟩ := unhide HY e1 e2 rfl rfl
      rw [q2, e1, e2]
      rw [q1] at HOc
      rw [q1]
      clear HNO HY hE e1 e2 q1 q2
      generalize parseL (bs s) = la at *
      generalize parseL (bs t) = lb at *
      obtain ⟨nb, hnb⟩ : ∃ n, lb.length = n + 1 := ⟨lb.length - 1, by omega⟩
      have HOb7 := unhide HOb6
      rw [hnb] at HOb7
      obtain ⟨gb, cb', hvb⟩ := row_some HOb7
      simp at hvb
      obtain ⟨rfl, rfl⟩ := hvb
      obtain ⟨L, HL⟩ : ∃ L, Hid (L = la ++ lb) := ⟨_, rfl⟩
      have HLn : Hid (la.length + lb.length = L.length) := by rw [unhide HL]; exact List.length_append.symm
      rw [← unhide HL] at HOc ⊢
      clear HOb7 hnb q3
      go_wp2_with (at_builtin; refine wpList_unguard (by rfl) ?_; refine wpList_append_own _ rfl _ _ 22 rfl w3.heap.size 30 i0 _ 5 32 Tryd.underlying22 hi0 hz0 hz1 hz2 rfl (by decide) (.slice aa la.length ca) la.length (cl la) rfl (unhide HOa6) ⟨gb, 0, none⟩ lb.length cb (cl lb) rfl (cl_length lb) ((unhide HOb6).cells (g := gb) rfl) (cl_one lb) (by unfold maxLen; omega) (by omega) (by omega) ?_; intro v' w7 ho7 hg7 hk7)
      have B7 : Hid (Below w.heap.size w w7) := (unhide B6).grown hg7 (by omega) (fun j hj => by have := ((unhide HOa6).lt j hj).1; omega)
      have hOc7 := (unhide HOc).kept hg7 (by
        cases hv : (Value.slice ac L.length cc').ownBlock with
        | none => exact .inl rfl
        | some g =>
          refine .inr fun e => ?_
          have h1 := ((unhide HOc).lt g hv).1
          have h2 := unhide hla g e.symm
          omega)
      have hO7 : w7.ownsRow w3.heap.size 30 5 v' L.length (cl L) := by
        rw [unhide HL, cl_app, List.length_append]; exact ho7
      obtain ⟨a7, c7, rfl, hR7⟩ := cg_of_owns hO7
      obtain ⟨a8, c8, hv8, hR8⟩ := cg_of_owns hOc7
      simp at hv8
      obtain ⟨rfl, rfl⟩ := hv8
      have hLl : L.length ≤ 20000 := by rw [← unhide HLn]; omega
      have C7 := hide (same_any ac a7 L.length cc' c7 cc' c7 L w7 (by omega) hR8 hR7)
      clear ho7 hg7 hk7 hO7 hR7 hR8 hOc7 HOa6 HOb6 HOc B6
      go_wp2_with fail
      refine (unhide C7).mono ?_
      rintro e w8 ⟨rfl, hb8⟩
      have B8 := hide ((unhide B7).trans (hb8.mono (unhide B7).size))
      clear hb8 C7 B7
      go_wp2_with fail
      go_ret
      exact ⟨rfl, unhide B8⟩
end Go.Proofs.YtijknodbaddelabDoor.Mo
