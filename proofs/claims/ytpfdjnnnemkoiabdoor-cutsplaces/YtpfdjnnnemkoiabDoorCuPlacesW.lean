/- The walk of CutsPlaces. -/
import Derived.Test.YtpfdjnnnemkoiabDoorCuAlive
namespace Go.Proofs.YtpfdjnnnemkoiabDoor.Cu
open Go.RowKit Go.Shelf
open Ls (R Rg has rc)

theorem has_app (l m : List R) (k : Int) : has (l ++ m) k = (has l k || has m k) := by simp [has]
theorem inL_app (l m : List R) (k : Nat) : inL (l ++ m) k = (has l (k : Int) || has m (k : Int)) := has_app l m k
theorem rc_app (l m : List R) : rc (l ++ m) = rc l ++ rc m := by simp [rc]
theorem rc_one (l : List R) : ∀ u ∈ rc l, u.oneCell' = true := by
  intro u hu
  simp [rc] at hu
  obtain ⟨_, _, _, (rfl | rfl)⟩ := hu <;> rfl

theorem rg_news {w : World} {ad : Addr} {n cap : Nat} {rs : List R} (h : Rg w (some ad) n cap rs) : ∀ j u, (rc rs)[j]? = some u → w.cell? (ad.add j) = some u := by
  intro j u hj
  have hl := Ls.rc_length rs
  have hjl : j < rs.length * 2 := by rw [← hl]; exact (List.getElem?_eq_some_iff.1 hj).1
  rcases h.cells with h0 | ⟨b, off, e, hb, hc⟩
  · have := h.len; omega
  cases e
  rw [Ls.add_none]
  have hi : j / 2 < rs.length := by omega
  obtain ⟨g1, g2⟩ := Ls.rc_get rs (j / 2) hi
  obtain ⟨c1, c2⟩ := hc (j / 2) (by rw [← h.len]; exact hi)
  rcases Nat.mod_two_eq_zero_or_one j with e | e
  · have e1 : j / 2 * 2 = j := by omega
    rw [e1, hj] at g1
    rw [show off + j / 2 * 2 = off + j by omega] at c1
    rw [c1, ← Option.some.inj g1]
  · have e1 : j / 2 * 2 + 1 = j := by omega
    rw [e1, hj] at g2
    rw [show off + j / 2 * 2 + 1 = off + j by omega] at c2
    rw [c2, ← Option.some.inj g2]

/-- ranges that came in, behind ranges of one's own -/
theorem wpList_append_rg {w : World} {ops : Array Oper} {rest : List Oper} {o : Oper} {a : Act} {Q : Exit → Act → World → Prop} (hgd : o.guard = none) (s x : Operand)
    (ho : o.op = .call { callee := .builtin .append, args := #[s, x], argTypes := #[22, 22] })
    (base : Nat) (v : Value) (xs : List R) (hs : a.eval s = v) (hown : w.ownsRow base 33 2 v xs.length (rc xs)) (hb : base ≤ w.heap.size)
    (ad : Option Addr) (n c : Nat) (rs : List R) (hx : a.eval x = .slice ad n c) (hr : Rg w ad n c rs) (hlen : xs.length + n ≤ 1073741824)
    (h : ∀ v' w', w'.ownsRow base 33 2 v' (xs ++ rs).length (rc (xs ++ rs)) → Below base w w' → wpList Tryd.prog ops Q rest (a.put o.dst v') w') : wpList Tryd.prog ops Q (o :: rest) a w := by
  obtain ⟨i0, hi, hz0, hz1, hz2⟩ := info_parts Ls.Tryd.infoRange
  have hrl := hr.len
  cases ad with
  | none =>
    obtain ⟨h0, h1⟩ := hr.nil rfl
    subst h0 h1
    obtain rfl : rs = [] := List.eq_nil_of_length_eq_zero hrl
    refine wpList_append_own_none hgd s x 22 ho base 33 i0 2 Tryd.underlying22 hi v xs.length (rc xs) hs hown hx (h v w ?_ (Below.refl _ _))
    rw [List.append_nil]; exact hown
  | some ad =>
    refine wpList_append_own w hgd s x 22 ho base 33 i0 (.agg #[.int .i64 0, .int .i64 0]) 2 16 Tryd.underlying22 hi hz0 hz1 hz2 rfl (by decide) v xs.length (rc xs) hs hown ad n c (rc rs) hx (by rw [Ls.rc_length, hrl]) (rg_news hr) (rc_one rs) (by unfold maxLen; omega) (by omega) hb ?_
    intro v' w' ho' hg' _
    refine h v' w' ?_ ((Below.refl _ _).grown hg' hb (fun k hk => (hown.lt k hk).1))
    rw [rc_app, List.length_append, hrl]
    exact ho'

theorem pick_here (p : Nat → Bool) (s : ByteArray) (k : Nat) (h : k < s.size) (hp : p (k + 1) = true) : ∃ r, pick p 0 (bs s) = pick p 0 ((bs s).take k) ++ s[k] :: r := by
  refine ⟨pick p (k + 1) ((bs s).drop (k + 1)), ?_⟩
  have e : bs s = (bs s).take k ++ s[k] :: (bs s).drop (k + 1) := by
    have h1 := (List.take_append_drop k (bs s)).symm
    rw [bs_at s k h] at h1
    exact h1
  conv => lhs; rw [e, pick_app]
  rw [List.length_take, Nat.min_eq_left (by rw [bs_len]; omega), Nat.zero_add, pick, if_pos hp]
theorem pick_take (p : Nat → Bool) (s : ByteArray) (k : Nat) (h : k < s.size) : pick p 0 ((bs s).take (k + 1)) = pick p 0 ((bs s).take k) ++ if p (k + 1) then [s[k]] else [] := by
  rw [show (bs s).take (k + 1) = (bs s).take k ++ [s[k]] from List.take_succ_eq_append_getElem (by simpa using h), pick_snoc]
  rw [List.length_take, Nat.min_eq_left (by rw [bs_len]; omega)]

set_option maxHeartbeats 2000000 in
set_option maxRecDepth 100000 in
theorem places_walk (s : ByteArray) (a1 : Option Addr) (n1 c1 : Nat) (l : List R) (a2 : Option Addr) (n2 c2 : Nat) (m : List R) (w : World) (h1 : Rg w a1 n1 c1 l) (h2 : Rg w a2 n2 c2 m) (hs : s.size ≤ 4611686018427387904) (hn1 : n1 ≤ 1152921504606846976) (hn2 : n2 ≤ 1152921504606846976) (ht : Tab w) :
    Calls Tryd.prog 3 #[.string s, .slice a1 n1 c1, .slice a2 n2 c2] w fun e w' => e = .returned (.bool true) ∧ Below w.heap.size w w' := by
  have HT := hide ht
  have HR1 := hide h1
  have HR2 := hide h2
  have A1 := hide (alive_any w ht)
  clear ht h1 h2
  go_enter Tryd.func3, Tryd.ntmps3
  go_wp2_with fail
  refine (unhide A1).mono ?_
  rintro e w1 ⟨rfl, hB1⟩
  clear A1
  have hT1 := hide ((unhide HT).below hB1)
  by_cases hbig : (5000 : Int) < (s.size : Int) ∨ (200 : Int) < (n1 : Int) + (n2 : Int)
  · have A2 := hide (alive_any w1 (unhide hT1))
    by_cases hb1 : (5000 : Int) < (s.size : Int)
    · clear hbig
      go_wp2_with fail
      refine (unhide A2).mono ?_
      rintro e w2 ⟨rfl, hB2⟩
      have hB2' : Below w.heap.size w w2 := hB1.trans (hB2.mono hB1.size)
      go_wp2_with fail
      go_ret
      exact ⟨rfl, hB2'⟩
    · have hb2 : (200 : Int) < (n1 : Int) + (n2 : Int) := hbig.resolve_left hb1
      clear hbig
      go_wp2_with fail
      refine (unhide A2).mono ?_
      rintro e w2 ⟨rfl, hB2⟩
      have hB2' : Below w.heap.size w w2 := hB1.trans (hB2.mono hB1.size)
      go_wp2_with fail
      go_ret
      exact ⟨rfl, hB2'⟩
  · have hb1 : ¬ (5000 : Int) < (s.size : Int) := fun h => hbig (.inl h)
    have hb2 : ¬ (200 : Int) < (n1 : Int) + (n2 : Int) := fun h => hbig (.inr h)
    clear hbig
    have hR1 := hide ((unhide HR1).below hB1)
    go_wp2_with (at_builtin; first
      | (refine wpList_append_rg rfl _ _ rfl w1.heap.size _ [] rfl (World.ownsRow_nil _ _ _ _) (Nat.le_refl _) a1 n1 c1 l rfl (unhide hR1) (by simp; omega) ?_; intro v2 w2 hO2 hB2; have HO2 := hide hO2; clear hO2; have hR2 := hide ((unhide HR2).below (hB1.trans (hB2.mono hB1.size))); have hsz2 := hB2.size; have hl1 : ([] ++ l : List R).length = n1 := by rw [List.nil_append]; exact (unhide HR1).len)
      | (refine wpList_append_rg rfl _ _ rfl w1.heap.size _ ([] ++ l) rfl (unhide HO2) hsz2 a2 n2 c2 m rfl (unhide hR2) (by rw [hl1]; omega) ?_; intro v3 w3 hO3 hB3; have HO3 := hide hO3; clear hO3))
    obtain ⟨g3, c3, hv3, hR3⟩ := Ls.rg_of_owns (unhide HO3)
    subst hv3
    have hB13 : Below w1.heap.size w1 w3 := hB2.trans hB3
    have hl3 : ([] ++ l ++ m).length ≤ 200 := by rw [List.length_append, hl1, (unhide HR2).len]; omega
    have F := hide (bytes_any s g3 ([] ++ l ++ m).length c3 c3 ([] ++ l ++ m) w3 hR3 (by omega) (by omega))
    rw [List.nil_append] at F
    rw [List.nil_append]
    refine (unhide F).mono ?_
    rintro e w4 ⟨rfl, hB4⟩
    have hB14 : Below w1.heap.size w1 w4 := hB13.trans (hB4.mono hB13.size)
    obtain ⟨T, hT⟩ : ∃ T, T = bt (pick (inL (l ++ m)) 0 (bs s)) := ⟨_, rfl⟩
    rw [← hT]
    have HTT := hide hT
    have hTs : T.size ≤ 5000 := by
      rw [hT]; show (pick (inL (l ++ m)) 0 (bs s)).toArray.size ≤ 5000
      have := pick_len (inL (l ++ m)) (bs s) 0
      rw [bs_len] at this
      rw [List.size_toArray]; omega
    clear F hR3 HO3 HO2 hB4 hB13 hB2 hB3 hR1 hR2 hT hl3 hl1 hsz2
    go_wp2_with fail
    go_loopw [9, 10] (fun kk ii wr => ∃ i : Nat, i ≤ s.size ∧ ii = .int .i64 i ∧ kk = .int .i64 ((pick (inL (l ++ m)) 0 ((bs s).take i)).length : Nat) ∧ Hid (Below w1.heap.size w1 wr)) (fun _ ii _ => s.size - (intOf ii).toNat)
    case atStart => exact ⟨0, by omega, rfl, rfl, hB14⟩
    case round =>
      obtain ⟨i, hi, rfl, rfl, hbl⟩ := hrel
      have hsz := (unhide hbl).size
      by_cases hlt : i < s.size
      · have hlt' : (i : Int) < (s.size : Int) := by omega
        have hcast : ((i + 1 : Nat) : Int) = (i : Int) + 1 := by omega
        have C1 := hide (fun W hW => Ls.has_any a1 n1 c1 c1 l ((i + 1 : Nat) : Int) W ((unhide HR1).below hW) (by omega))
        have C2 := hide (fun W hW => Ls.has_any a2 n2 c2 c2 m ((i + 1 : Nat) : Int) W ((unhide HR2).below hW) (by omega))
        have hpi := inL_app l m (i + 1)
        have hpt := pick_take (inL (l ++ m)) s i hlt
        have hph := pick_here (inL (l ++ m)) s i hlt
        rw [hpi] at hpt hph
        rw [hcast] at C1 C2 hpt hph
        obtain ⟨x1, hx1⟩ : ∃ x, x = has l ((i : Int) + 1) := ⟨_, rfl⟩
        obtain ⟨x2, hx2⟩ : ∃ x, x = has m ((i : Int) + 1) := ⟨_, rfl⟩
        rw [← hx1] at C1 hpt hph
        rw [← hx2] at C2 hpt hph
        clear hx1 hx2 hpi hcast
        obtain ⟨j, hj⟩ : ∃ j, j = (pick (inL (l ++ m)) 0 ((bs s).take i)).length := ⟨_, rfl⟩
        have hjn : (pick (inL (l ++ m)) 0 ((bs s).take (i + 1))).length = if (x1 || x2) = true then j + 1 else j := by
          rw [hpt, List.length_append, hj]; split <;> simp
        have hjb : (x1 || x2) = true → ∃ hjs : j < T.size, T[j] = s[i] := fun h => by
          obtain ⟨r, hr⟩ := hph h
          have hTb : bs T = pick (inL (l ++ m)) 0 (bs s) := by rw [unhide HTT]; rfl
          have hjs : j < T.size := by rw [← bs_len, hTb, hr, List.length_append, ← hj]; simp
          refine ⟨hjs, ?_⟩
          have e1 : T[j] = (bs T)[j]'(by rw [bs_len]; exact hjs) := rfl
          rw [e1]
          simp only [hTb, hr]
          rw [List.getElem_append_right (by omega)]
          simp [hj]
        rw [← hj]
        have HJN := hide hjn
        have HJB := hide hjb
        have hj5 : j ≤ 5000 := by
          have := pick_len (inL (l ++ m)) ((bs s).take i) 0
          rw [← hj, List.length_take] at this; omega
        clear hj hjn hjb hpt hph
        go_wp2_with fail
        refine (unhide C1 wr (hB1.trans ((unhide hbl).mono hB1.size))).mono ?_
        rintro e w5 ⟨rfl, hB5⟩
        have hbl5 : Hid (Below w1.heap.size w1 w5) := (unhide hbl).trans (hB5.mono hsz)
        clear hB5 C1 hbl
        cases x1 with
        | true =>
          clear C2
          obtain ⟨hjs, hjv⟩ := unhide HJB (by rfl)
          have hjn := unhide HJN
          have hne : ((j : Int) == (T.size : Int)) = false := beq_eq_false_iff_ne.2 (by omega)
          have hne2 : ¬ j = T.size := by omega
          have hjv' : (T[j].toNat : Int) = (s[i].toNat : Int) := by rw [hjv]
          have hjs' : (j : Int) < (T.size : Int) := by omega
          clear HJB hjv
          simp only [Bool.true_or, if_true] at hjn
          have HJ2 := hide hjn
          clear hjn HJN
          go_wp2_with fail
          go_quiet (fail)
          go_wp2_with fail
          go_roundw
          case rel => exact ⟨i + 1, by omega, by go_num, by rw [unhide HJ2]; go_num, below_drewN (unhide hbl5) _⟩
          case measure => simp [intOf]; omega
        | false =>
          go_wp2_with fail
          refine (unhide C2 w5 (hB1.trans ((unhide hbl5).mono hB1.size))).mono ?_
          rintro e w6 ⟨rfl, hB6⟩
          have hsz5 := (unhide hbl5).size
          have hbl6 : Hid (Below w1.heap.size w1 w6) := (unhide hbl5).trans (hB6.mono hsz5)
          clear hB6 C2 hbl5
          cases x2 with
          | true =>
            obtain ⟨hjs, hjv⟩ := unhide HJB (by rfl)
            have hjn := unhide HJN
            have hne : ((j : Int) == (T.size : Int)) = false := beq_eq_false_iff_ne.2 (by omega)
            have hne2 : ¬ j = T.size := by omega
            have hjv' : (T[j].toNat : Int) = (s[i].toNat : Int) := by rw [hjv]
            have hjs' : (j : Int) < (T.size : Int) := by omega
            clear HJB hjv
            simp only [Bool.or_true, if_true] at hjn
            have HJ2 := hide hjn
            clear hjn HJN
            go_wp2_with fail
            go_quiet (fail)
            go_wp2_with fail
            go_roundw
            case rel => exact ⟨i + 1, by omega, by go_num, by rw [unhide HJ2]; go_num, below_drewN (unhide hbl6) _⟩
            case measure => simp [intOf]; omega
          | false =>
            have hjn := unhide HJN
            simp only [Bool.or_false] at hjn
            have HJ2 : Hid ((pick (inL (l ++ m)) 0 ((bs s).take (i + 1))).length = j) := by rw [hjn]; simp [Hid]
            clear hjn HJN HJB
            go_wp2_with fail
            go_roundw
            case rel => exact ⟨i + 1, by omega, by go_num, by rw [unhide HJ2], hbl6⟩
            case measure => simp [intOf]; omega
      · obtain rfl : i = s.size := by omega
        have hx : (bs s).take s.size = bs s := List.take_of_length_le (by simp)
        rw [hx]
        have hTl : ((pick (inL (l ++ m)) 0 (bs s)).length : Int) = (T.size : Int) := by
          rw [unhide HTT]; show _ = ((pick (inL (l ++ m)) 0 (bs s)).toArray.size : Int); rw [List.size_toArray]
        have hB' : Below w.heap.size w wr := hB1.trans ((unhide hbl).mono hB1.size)
        rw [hTl]
        go_wp2_with fail
        go_ret
        exact ⟨rfl, hB'⟩
end Go.Proofs.YtpfdjnnnemkoiabDoor.Cu
