/- The law ListsJoins: walked. -/
import Derived.Test.YtijoemamnkhhnaaDoorLsAgainWalk
import Derived.ArgAppend
import Derived.OwnWalk
namespace Go.Proofs.YtijoemamnkhhnaaDoor.Ls
open Go.RowKit Go.Shelf

/-- 'append(v, xs...)', v a row of the call's own that lies at g: what v reads stays -/
theorem wpList_append_keep {P : Program} (w : World) {ops : Array Oper} {rest : List Oper} {o : Oper} {a : Act} {Q : Exit → Act → World → Prop}
    (hg : o.guard = none) (s x : Operand) (t : TypeId) (hop : o.op = Op.call { callee := Callee.builtin Builtin.append, args := #[s, x], argTypes := #[t, t] })
    (base : Nat) (e : TypeId) (i : TypeInfo) (z : Value) (size bytes : Nat) (h1 : P.underlying t = some (.slice e)) (h2 : P.info? e = some i) (h3 : i.zero = some z) (h4 : i.size = size) (h5 : i.bytes = bytes) (h6 : z.cells.size = size) (h7 : 0 < size)
    (g n cap : Nat) (xs : List Value) (hs : a.eval s = .slice (some ⟨g, 0, none⟩) n cap) (hown : w.ownsRow base e size (.slice (some ⟨g, 0, none⟩) n cap) n xs)
    (ad : Addr) (m c : Nat) (news : List Value) (hx : a.eval x = .slice (some ad) m c) (hn : news.length = m * size) (hc : ∀ j u, news[j]? = some u → w.cell? (ad.add j) = some u) (h1c : ∀ u ∈ news, u.oneCell' = true)
    (b1 : n + m ≤ maxLen) (b2 : (n + m) * bytes ≤ 140737488355328) (hbase : base ≤ w.heap.size)
    (hK : ∀ v' w', w'.ownsRow base e size v' (n + m) (xs ++ news) → w.grownBy w' (some g) → (∀ j u, xs[j]? = some u → w'.cell? ⟨g, j, none⟩ = some u) → wpList P ops Q rest (a.put o.dst v') w') :
    wpList P ops Q (o :: rest) a w := by
  have hcells : ∀ j u, xs[j]? = some u → w.cell? ⟨g, j, none⟩ = some u := fun j u hj => by
    have := hown.cells (g := g) rfl j u hj
    rw [add_none, Nat.zero_add] at this
    exact this
  by_cases hr : n + m ≤ cap
  · refine wpList_append_fits w hg s x t hop base e i size h1 h2 h4 g n cap xs hs hown ad m c news hx hn hc h1c hr ?_
    intro w' ho hgr
    refine hK _ w' ho hgr (fun j u hj => ?_)
    have hj2 : j < xs.length := (List.getElem?_eq_some_iff.1 hj).1
    have := ho.cells (g := g) rfl j u (by rw [List.getElem?_append_left hj2]; exact hj)
    rw [add_none, Nat.zero_add] at this
    exact this
  · refine wpList_append_grows w hg s x t hop e i z size bytes h1 h2 h3 h4 h5 h6 h7 (some ⟨g, 0, none⟩) n cap xs hs (by intro h; cases h) hown.1 (fun b hb j u hj => by cases hb; exact hown.cells (g := g) rfl j u hj) ad m c news hx hn hc h1c (by omega) b1 b2 ?_
    intro v' w' ho hgr
    refine hK v' w' (own_base ho hbase) ⟨hgr.os, hgr.tape, hgr.output, hgr.size, fun k hk _ => hgr.block k hk (by simp)⟩ (fun j u hj => ?_)
    have h := hcells j u hj
    have hlt := World.block_lt_of_cell? _ _ h
    have hb : Below w.heap.size w w' := ⟨hgr.os, hgr.tape, hgr.output, hgr.size, fun k hk => hgr.block k hk (by simp)⟩
    exact (hb.cell hlt).trans h

/-- an operation that a guard lets by -/
theorem wpList_unguard {P : Program} {w : World} {ops : Array Oper} {rest : List Oper} {o : Oper} {a : Act} {Q : Exit → Act → World → Prop} (hw : Region.wanted o (yielded ops a.tmps) = true)
    (h : wpList P ops Q ({ o with guard := none } :: rest) a w) : wpList P ops Q (o :: rest) a w := by
  unfold wpList at h ⊢
  rw [if_pos hw]
  rw [if_pos (by simp [Region.wanted])] at h
  exact h

theorem has_append (a b : List R) (n : Int) : has (a ++ b) n = (has a n || has b n) := by simp [has]
theorem rc_append (a b : List R) : rc (a ++ b) = rc a ++ rc b := by simp [rc]
theorem rc_one (l : List R) : ∀ u ∈ rc l, u.oneCell' = true := by
  intro u hu
  unfold rc at hu
  obtain ⟨r, _, hr⟩ := List.mem_flatMap.1 hu
  simp at hr
  rcases hr with rfl | rfl <;> rfl
/-- a list that is not empty, as a row of the call's own -/
theorem parse_row {s : ByteArray} {l : List R} {n : Int} (w : World) (hs : s.size ≤ 4611686018427387904) (h1 : parseL (bs s) = l) (h2 : parseE (bs s) = n) (hne : l ≠ []) :
    Calls Tryd.prog 16 #[.string s] w fun e w' => ∃ g cap, e = .returned (.tuple #[.slice (some ⟨g, 0, none⟩) l.length cap, .int .i64 n]) ∧ w'.ownsRow w.heap.size 41 2 (.slice (some ⟨g, 0, none⟩) l.length cap) l.length (rc l) ∧ Below w.heap.size w w' := by
  subst h1 h2
  refine (parse_any s w hs).mono ?_
  rintro e w' ⟨v, rfl, hO, hB⟩
  rcases hO.2 with ⟨rfl, h0⟩ | ⟨g, cap, cur, rfl, _⟩
  · exact absurd (List.eq_nil_of_length_eq_zero h0) hne
  · exact ⟨g, cap, rfl, hO, hB⟩
theorem rg_of_row {w : World} {base g cap : Nat} {l : List R} {e : TypeId} (h : w.ownsRow base e 2 (.slice (some ⟨g, 0, none⟩) l.length cap) l.length (rc l)) : Rg w (some ⟨g, 0, none⟩) l.length cap l := by
  obtain ⟨a, c, e, hR⟩ := rg_of_owns h
  cases e
  exact hR
theorem rg_of_cells {w : World} {g cap : Nat} {l : List R} (hg : g < w.heap.size) (hc : l.length ≤ cap) (h : ∀ j u, (rc l)[j]? = some u → w.cell? ⟨g, j, none⟩ = some u) : Rg w (some ⟨g, 0, none⟩) l.length cap l := by
  refine ⟨rfl, hc, by simp, .inr ⟨g, 0, rfl, hg, fun i hi => ?_⟩⟩
  obtain ⟨g1, g2⟩ := rc_get l i hi
  rw [Nat.zero_add]
  exact ⟨h _ _ g1, h _ _ g2⟩

theorem joins_bad {s t : List UInt8} (hl : s.length + t.length ≤ 4095) (h : parseL s = [] ∧ (parseE s = 5 ∨ parseE s = 3) ∨ parseL t = [] ∧ (parseE t = 5 ∨ parseE t = 3)) : parseL (s ++ 44 :: t) = [] ∧ parseE (s ++ 44 :: t) = 5 := by
  have key : parse s = none ∨ parse t = none := by
    rcases h with h | h
    · left
      rcases parseE_cases s with ⟨h0, _⟩ | _
      · omega
      · cases hp : parse s with
        | none => rfl
        | some l => have := (parse_some (by omega) hp).2; omega
    · right
      rcases parseE_cases t with ⟨h0, _⟩ | _
      · omega
      · cases hp : parse t with
        | none => rfl
        | some l => have := (parse_some (by omega) hp).2; omega
  refine parse_none (by simp; omega) ?_
  rw [parse_two]
  rcases key with h | h
  · rw [h]
  · rw [h]; cases parse s <;> rfl
theorem joins_good {s t : List UInt8} {a b : List R} (hl : s.length + t.length ≤ 4095) (h1 : parse s = some a) (h2 : parse t = some b) : parseL (s ++ 44 :: t) = a ++ b ∧ parseE (s ++ 44 :: t) = 0 := by
  refine parse_some (by simp; omega) ?_
  rw [parse_two, h1, h2]; rfl
theorem cat_comma (s t : ByteArray) : bs (s ++ { data := #[44] } ++ t) = bs s ++ 44 :: bs t := by simp [bs]

set_option maxRecDepth 100000 in
set_option maxHeartbeats 1000000 in
/-- one of the two is no list -/
theorem joins_no (s t : ByteArray) (n : Int) (w : World) (hs : s.size ≤ 4611686018427387900) (hts : t.size ≤ 4611686018427387900) (hbig : ¬ 4095 < (s.size : Int) + (t.size : Int)) (hcz : (s ++ { data := #[44] } ++ t).size ≤ 4096) (ht : Tab w)
    (x y : Int) (hx : parseE (bs s) = x) (hy : parseE (bs t) = y) (hxy : (x = 0 ∧ (y = 5 ∨ y = 3)) ∨ x = 5 ∨ x = 3) (hc : parseL (bs (s ++ { data := #[44] } ++ t)) = [] ∧ parseE (bs (s ++ { data := #[44] } ++ t)) = 5) :
    Calls Tryd.prog 6 #[.string s, .string t, .int .i64 n] w fun e w' => e = .returned (.bool true) ∧ Below w.heap.size w w' := by
  have HT := hide ht
  have hnb : ¬ 4095 < (s.size : Int) := by omega
  have C1 := hide (fun w => parse_is w (by omega) rfl hx)
  have C2 := hide (fun w => parse_is w (by omega) rfl hy)
  have C3 := hide (fun w => parse_is w (by omega) hc.1 hc.2)
  clear ht hc hx hy
  obtain ⟨c, hcc⟩ : ∃ c, c = s ++ { data := #[44] } ++ t := ⟨_, rfl⟩
  rw [← hcc] at C3
  have HCC := hide hcc
  clear hcc
  rcases hxy with ⟨rfl, rfl | rfl⟩ | rfl | rfl
  all_goals
    go_enter Tryd.func6, Tryd.ntmps6
    go_wp2_with fail
    refine (alive_any _ (unhide HT)).mono ?_
    rintro e w1 ⟨rfl, hb1⟩
    go_wp2_with fail
    refine (unhide C1 _).mono ?_
    rintro e w2 ⟨a2, c2, rfl, hR2, hb2⟩
    have hB2 : Below w.heap.size w w2 := hb1.trans (hb2.mono hb1.size)
    clear hb1 hb2 hR2
    go_wp2_with fail
    refine (unhide C2 _).mono ?_
    rintro e w3 ⟨a3, c3, rfl, hR3, hb3⟩
    have hB3 : Below w.heap.size w w3 := hB2.trans (hb3.mono hB2.size)
    clear hB2 hb3 hR3
    go_wp2_with fail
    rw [← unhide HCC]
    refine (unhide C3 _).mono ?_
    rintro e w4 ⟨a4, c4, rfl, hR4, hb4⟩
    clear hR4
    go_wp2_with fail
    go_ret
    exact ⟨rfl, hB3.trans (hb4.mono hB3.size)⟩

set_option maxRecDepth 100000 in
set_option maxHeartbeats 1000000 in
theorem joins_walk (s t : ByteArray) (n : Int) (w : World) (hs : s.size ≤ 4611686018427387900) (hts : t.size ≤ 4611686018427387900) (ht : Tab w) :
    Calls Tryd.prog 6 #[.string s, .string t, .int .i64 n] w fun e w' => e = .returned (.bool true) ∧ Below w.heap.size w w' := by
  have HT := hide ht
  clear ht
  by_cases hbig : 4095 < (s.size : Int) + (t.size : Int)
  · go_enter Tryd.func6, Tryd.ntmps6
    go_wp2_with fail
    refine (alive_any _ (unhide HT)).mono ?_
    rintro e w1 ⟨rfl, hb1⟩
    have HT1 := hide ((unhide HT).below hb1)
    clear HT
    go_wp2_with fail
    refine (alive_any _ (unhide HT1)).mono ?_
    rintro e w2 ⟨rfl, hb2⟩
    go_wp2_with fail
    go_ret
    exact ⟨rfl, hb1.trans (hb2.mono hb1.size)⟩
  · have hnb : ¬ 4095 < (s.size : Int) := by omega
    have hsum : (bs s).length + (bs t).length ≤ 4095 := by rw [bs_len, bs_len]; omega
    have hcz : (s ++ { data := #[44] } ++ t).size ≤ 4096 := by
      have := congrArg List.length (cat_comma s t)
      rw [bs_len] at this
      rw [this]; simp; simp at hsum; omega
    have HCC := hide (cat_comma s t)
    rcases parseE_cases (bs s) with ⟨hs0, _, hsp⟩ | ⟨hs0, hsL⟩
    · rcases parseE_cases (bs t) with ⟨ht0, _, htp⟩ | ⟨ht0, htL⟩
      · obtain ⟨a, hA⟩ : ∃ a, parseL (bs s) = a := ⟨_, rfl⟩
        obtain ⟨b, hB⟩ : ∃ b, parseL (bs t) = b := ⟨_, rfl⟩
        rw [hA] at hsp
        rw [hB] at htp
        have hane := (parse_ok hsp).1
        have hbne := (parse_ok htp).1
        have hal := (parse_ok hsp).2.2.2
        have hbl := (parse_ok htp).2.2.2
        have hgood := hide (joins_good hsum hsp htp)
        obtain ⟨L, hL⟩ : ∃ L, L = a ++ b := ⟨_, rfl⟩
        have hcne : L ≠ [] := by simp [hL, hane]
        have hLl : L.length ≤ 8192 := by rw [hL, List.length_append]; rw [bs_len] at hal hbl; omega
        have HL := hide hL
        rw [← hL] at hgood
        clear hL
        have C1 := hide (fun w => parse_row w (by omega) hA hs0 hane)
        have C2 := hide (fun w => parse_row w (by omega) hB ht0 hbne)
        obtain ⟨c, hc⟩ : ∃ c, c = s ++ { data := #[44] } ++ t := ⟨_, rfl⟩
        have hcp : Hid (parseL (bs c) = L ∧ parseE (bs c) = 0) := by rw [hc, unhide HCC]; exact hgood
        have hal' : a.length ≤ 4096 := by omega
        have hbl' : b.length ≤ 4096 := by omega
        clear hA hB hsp htp hane hbne hal hbl hgood hsum HCC hs0 ht0
        obtain ⟨i0, hi, hz0, hz1, hz2⟩ := info_parts Tryd.infoRange
        go_enter Tryd.func6, Tryd.ntmps6
        go_wp2_with fail
        refine (alive_any _ (unhide HT)).mono ?_
        rintro e w1 ⟨rfl, hb1⟩
        clear HT
        go_wp2_with fail
        refine (unhide C1 _).mono ?_
        rintro e w2 ⟨ga, ca, rfl, hOa, hb2⟩
        have hB2 : Below w.heap.size w w2 := hb1.trans (hb2.mono hb1.size)
        have HA := hide (own_base hOa hb1.size)
        clear hOa hb1 hb2 C1
        go_wp2_with fail
        refine (unhide C2 _).mono ?_
        rintro e w3 ⟨gb, cb, rfl, hOb, hb3⟩
        have hB3 : Below w.heap.size w w3 := hB2.trans (hb3.mono hB2.size)
        have HA3 := hide (own_below (unhide HA) hb3)
        have HOb := hide (own_base hOb (by have := hB2.size; omega : w.heap.size ≤ w2.heap.size))
        have hne : Hid (ga ≠ gb) := by
          have h1 := (unhide HA).lt ga rfl
          have h2 := hOb.lt gb rfl
          show _ ≠ _
          omega
        clear hb3 hB2 HA hOb C2
        go_wp2_with fail
        rw [← hc]
        have C3 := hide (parse_row w3 (s := c) (by rw [hc]; omega) (unhide hcp).1 (unhide hcp).2 hcne)
        refine (unhide C3).mono ?_
        rintro e w4 ⟨gc, cc, rfl, hOc, hb4⟩
        have hB4 : Below w.heap.size w w4 := hB3.trans (hb4.mono hB3.size)
        have HA4 := hide (own_below (unhide HA3) hb4)
        have HOb4 := hide (own_below (unhide HOb) hb4)
        have HOc := hide (own_base hOc hB3.size)
        have hl4 : Hid (ga < w4.heap.size) := ((unhide HA4).lt ga rfl).2
        have hne2 : Hid (ga ≠ gc) := by
          have h1 := (unhide HA3).lt ga rfl
          have h2 := hOc.lt gc rfl
          show _ ≠ _
          omega
        have hbase := hB4.size
        have hlc : a.length ≤ ca := (rg_of_row (unhide HA4)).le
        clear hb4 hB3 HA3 HOb hOc C3
        go_wp2_with (at_builtin; refine wpList_unguard (by rfl) ?_; refine wpList_append_keep _ rfl _ _ 22 rfl w.heap.size 41 i0 _ 2 16 Tryd.underlying22 hi hz0 hz1 hz2 rfl (by decide) ga a.length ca (rc a) rfl (unhide HA4) ⟨gb, 0, none⟩ b.length cb (rc b) rfl (rc_length b) ((unhide HOb4).cells (g := gb) rfl) (rc_one b) (by unfold maxLen; omega) (by omega) hbase ?_; intro v' w5 ho5 hg5 hk5)
        have hB5 : Below w.heap.size w w5 := hB4.grown hg5 hbase (fun k hk => by cases hk; exact ((unhide HA4).lt ga rfl).1)
        have HRA : Hid (Rg w5 (some ⟨ga, 0, none⟩) a.length ca a) := rg_of_cells (Nat.lt_of_lt_of_le (unhide hl4) hg5.size) hlc hk5
        have HRB : Hid (Rg w5 (some ⟨gb, 0, none⟩) b.length cb b) := rg_of_row ((unhide HOb4).kept hg5 (.inr (fun e => by simp [Value.ownBlock] at e; exact unhide hne e.symm)))
        have HRC : Hid (Rg w5 (some ⟨gc, 0, none⟩) L.length cc L) := rg_of_row ((unhide HOc).kept hg5 (.inr (fun e => by simp [Value.ownBlock] at e; exact unhide hne2 e.symm)))
        have hO5 : w5.ownsRow w.heap.size 41 2 v' L.length (rc L) := by rw [unhide HL, rc_append, List.length_append]; exact ho5
        obtain ⟨a5, c5, rfl, hR5⟩ := rg_of_owns hO5
        have C6 := hide (same_any (some ⟨gc, 0, none⟩) a5 L.length cc c5 cc c5 L w5 (by omega) (unhide HRC) hR5)
        clear ho5 hg5 hk5 hO5 hR5 HA4 HOb4 HOc hB4
        go_wp2_with fail
        refine (unhide C6).mono ?_
        rintro e w6 ⟨rfl, hb6⟩
        have hB6 : Below w.heap.size w w6 := hB5.trans (hb6.mono hB5.size)
        have HA6 := hide ((unhide HRA).below hb6)
        have HB6 := hide ((unhide HRB).below hb6)
        have C7 := hide (has_any (some ⟨gc, 0, none⟩) L.length cc cc L n w6 ((unhide HRC).below hb6) (by omega))
        rw [show has L n = (has a n || has b n) by rw [unhide HL, has_append]] at C7
        clear C6 hb6 hB5 HRA HRB HRC
        have C8 := hide (fun w h => has_any (some ⟨ga, 0, none⟩) a.length ca ca a n w h (by omega))
        have C9 := hide (fun w h => has_any (some ⟨gb, 0, none⟩) b.length cb cb b n w h (by omega))
        cases hha : has a n
        · rw [hha] at C7 C8
          cases hhb : has b n
          all_goals
            rw [hhb] at C7 C9
            clear hha hhb
            go_wp2_with fail
            refine (unhide C7).mono ?_
            rintro e w7 ⟨rfl, hb7⟩
            have hB7 : Below w.heap.size w w7 := hB6.trans (hb7.mono hB6.size)
            have HA7 := hide ((unhide HA6).below hb7)
            have HB7 := hide ((unhide HB6).below hb7)
            clear hb7 HA6 HB6 hB6 C7
            go_wp2_with fail
            refine (unhide C8 _ (unhide HA7)).mono ?_
            rintro e w8 ⟨rfl, hb8⟩
            have hB8 : Below w.heap.size w w8 := hB7.trans (hb8.mono hB7.size)
            have HB8 := hide ((unhide HB7).below hb8)
            clear hb8 HA7 HB7 hB7 C8
            go_wp2_with fail
            refine (unhide C9 _ (unhide HB8)).mono ?_
            rintro e w9 ⟨rfl, hb9⟩
            go_wp2_with fail
            go_ret
            exact ⟨rfl, hB8.trans (hb9.mono hB8.size)⟩
        · rw [hha] at C7 C8
          clear hha C9
          go_wp2_with fail
          refine (unhide C7).mono ?_
          rintro e w7 ⟨rfl, hb7⟩
          have hB7 : Below w.heap.size w w7 := hB6.trans (hb7.mono hB6.size)
          have HA7 := hide ((unhide HA6).below hb7)
          clear hb7 HA6 HB6 hB6 C7
          go_wp2_with fail
          refine (unhide C8 _ (unhide HA7)).mono ?_
          rintro e w8 ⟨rfl, hb8⟩
          go_wp2_with fail
          go_ret
          exact ⟨rfl, hB7.trans (hb8.mono hB7.size)⟩
      · have hbad := joins_bad hsum (.inr ⟨htL, ht0⟩)
        exact joins_no s t n w hs hts hbig hcz (unhide HT) _ _ rfl rfl (.inl ⟨hs0, ht0⟩) (by rw [unhide HCC]; exact hbad)
    · have hbad := joins_bad hsum (.inl ⟨hsL, hs0⟩)
      exact joins_no s t n w hs hts hbig hcz (unhide HT) _ _ rfl rfl (.inr hs0) (by rw [unhide HCC]; exact hbad)
end Go.Proofs.YtijoemamnkhhnaaDoor.Ls
