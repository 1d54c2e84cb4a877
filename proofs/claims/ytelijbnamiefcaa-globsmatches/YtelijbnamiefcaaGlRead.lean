/- What Check and read answer. -/
import Derived.Test.YtelijbnamiefcaaGlFun
namespace Go.Proofs.Ytelijbnamiefcaa.Gl
open Go.RowKit

def checkP (s : Bs) : Bool := (readP s).isSome
theorem drewN_drewN (w : World) (a b : Nat) : (w.drewN a).drewN b = w.drewN (a + b) := by
  simp [World.drewN, Nat.add_assoc]
theorem below_drewN {B : Nat} {w0 w : World} (h : Below B w0 w) (hB : B ≤ w.heap.size) (q : Nat) : Below B w0 (w.drewN q) := h.trans ((below_drew w q).mono hB)
theorem isSome_map {α β : Type} (o : Option α) (f : α → β) : (o.map f).isSome = o.isSome := by cases o <;> rfl
theorem kind_two (s : Bs) : (kindP s).1 = 2 ∨ (kindP s).1 = 3 → 2 ≤ (kindP s).2 := by
  cases s with
  | nil => intro h; rcases h with h | h <;> cases h
  | cons c r =>
    simp only [kindP]
    split
    · intro h; rcases h with h | h <;> cases h
    · split
      · intro h; rcases h with h | h <;> cases h
      · split
        · intro _; exact Nat.le_refl _
        · split
          · split
            · rename_i h1
              intro _
              show 2 ≤ brk (c :: r)
              have h1' : 0 < brk (c :: r) := h1
              unfold brk at h1' ⊢
              split at h1'
              · omega
              · split at h1'
                · rename_i h2; simp only [if_pos h2]; omega
                · omega
            · intro h; rcases h with h | h <;> cases h
          · intro h; rcases h with h | h <;> cases h
theorem kind_four (s : Bs) : (kindP s).1 ≤ 4 := by
  cases s with
  | nil => exact Nat.le_refl _
  | cons c r =>
    simp only [kindP]
    split
    · simp
    · split
      · simp
      · split
        · simp
        · split
          · split
            · simp
            · simp
          · simp

set_option maxHeartbeats 400000 in
set_option maxRecDepth 100000 in
theorem check_any (s : ByteArray) (w : World) (hs : s.size ≤ 4611686018427387904) :
    Calls Try.prog 9 #[.string s] w fun e w' => e = .returned (.bool (checkP (bs s))) ∧ ∃ q, w' = w.drewN q := by
  by_cases hl : 4096 < s.size
  · have hl' : (4096 : Int) < (s.size : Int) := by omega
    have hP : Hid (checkP (bs s) = false) := by
      show _ = _
      unfold checkP readP; rw [if_pos (by rw [bs_len]; exact hl)]; rfl
    go_enter Try.func9, Try.ntmps9
    go_wp2_with fail
    go_ret
    exact ⟨by rw [unhide hP]; rfl, 0, rfl⟩
  · have hl' : ¬ (4096 : Int) < (s.size : Int) := by omega
    have hP : Hid (checkP (bs s) = (rdA (bs s)).isSome) := by
      show _ = _
      unfold checkP readP rdA; rw [if_neg (by rw [bs_len]; exact hl)]
    go_enter Try.func9, Try.ntmps9
    go_wp2_with fail
    go_loopw [0, 3] (fun v0 v3 wr => ∃ (r : ByteArray) (ok : Bool) (q : Nat), (ok = true → r.size ≤ 5000) ∧ v0 = .string r ∧ v3 = .bool ok ∧ wr = w.drewN q ∧ Hid (checkP (bs s) = (ok && (rdA (bs r)).isSome))) (fun v0 v3 _ => match v3 with | .bool true => (match v0 with | .string r => r.size + 1 | _ => 0) | _ => 0)
    case atStart => exact ⟨s, true, 0, fun _ => by omega, rfl, rfl, rfl, by rw [unhide hP]; simp [Hid]⟩
    case round =>
      clear hP hl hl' hs
      obtain ⟨r, ok, q, hr, rfl, rfl, rfl, hI⟩ := hrel
      cases ok
      · have hf : Hid (checkP (bs s) = false) := by rw [unhide hI]; rfl
        go_wp2_with fail
        go_ret
        exact ⟨by rw [unhide hf]; rfl, q, rfl⟩
      · by_cases h0 : 0 < r.size
        · have he : r.toList.isEmpty = false := not_empty r h0
          have hn : bs r ≠ [] := by rw [bs_one r h0]; simp
          have hc := hide (rdA_cons (bs r) hn)
          have hk := hide (kind_pos (bs r))
          have hr := hr rfl
          have HC := hide (cutThing_any r (w.drewN q) h0 hr)
          go_wp2_with fail
          refine (unhide HC).mono ?_
          rintro e w1 ⟨⟨t, r', rfl, hcut⟩, q2, rfl⟩
          have HCU := hide hcut
          obtain ⟨ok, hok⟩ : ∃ ok, ok = decide ((kindP (bs r)).2 ≤ (bs r).length) := ⟨_, rfl⟩
          rw [← hok]
          have HOK := hide hok
          generalize (kindP (bs r)).1 = k at *
          clear HC hcut hok
          go_wp2_with fail
          go_roundw
          case rel =>
            refine ⟨r', ok, q + q2, ?_, rfl, rfl, rfl, ?_⟩
            · intro h
              have h1 := of_decide_eq_true ((unhide HOK).symm.trans h)
              have h2 := congrArg List.length (unhide HCU h1).2
              rw [List.length_drop, bs_len, bs_len] at h2
              omega
            · show _ = _
              rw [unhide hI, unhide hc]
              by_cases h1 : (kindP (bs r)).2 ≤ (bs r).length
              · rw [if_neg (by omega), isSome_map, unhide HOK, decide_eq_true h1, (unhide HCU h1).2]
              · rw [if_pos (by omega), unhide HOK, decide_eq_false h1]; rfl
          case measure =>
            cases ok
            · simp
            · have h1 := of_decide_eq_true (unhide HOK).symm
              have h2 := congrArg List.length (unhide HCU h1).2
              have h3 := unhide hk
              rw [List.length_drop, bs_len, bs_len] at h2
              simp
              omega
        · have he : r.toList.isEmpty = true := is_empty r (by omega)
          have hf : Hid (checkP (bs s) = true) := by
            show _ = _
            rw [unhide hI, List.eq_nil_of_length_eq_zero (l := bs r) (by rw [bs_len]; omega)]; rfl
          go_wp2_with fail
          go_ret
          exact ⟨by rw [unhide hf]; rfl, q, rfl⟩
/-! ### things in memory -/
def tc (xs : List (Nat × Value)) : List Value := xs.flatMap fun x => [.int .u8 (x.1 : Int), x.2]
theorem tc_length (xs : List (Nat × Value)) : (tc xs).length = xs.length * 2 := by
  induction xs with
  | nil => rfl
  | cons r l ih => simp [tc] at ih ⊢; omega
theorem tc_snoc (xs : List (Nat × Value)) (x : Nat × Value) : tc (xs ++ [x]) = tc xs ++ [.int .u8 (x.1 : Int), x.2] := by simp [tc]
theorem tc_get (xs : List (Nat × Value)) (i : Nat) (x : Nat × Value) (h : xs[i]? = some x) : (tc xs)[i * 2]? = some (.int .u8 (x.1 : Int)) ∧ (tc xs)[i * 2 + 1]? = some x.2 := by
  induction xs generalizing i with
  | nil => simp at h
  | cons r l ih =>
    cases i with
    | zero => simp at h; subst h; simp [tc]
    | succ i =>
      have := ih i (by simpa using h)
      have e1 : (i + 1) * 2 = i * 2 + 1 + 1 := by omega
      have e : tc (r :: l) = .int .u8 (r.1 : Int) :: r.2 :: tc l := by simp [tc]
      rw [e, e1]
      simpa using this
/-- a kind and a function in memory are this thing -/
def Tk (w : World) (x : Nat × Value) (t : Th) : Prop := x.1 ≤ 4 ∧ decide (x.1 = 0) = t.star ∧ Cls w x.2 t.p
def TOk (w : World) (xs : List (Nat × Value)) (ts : List Th) : Prop := xs.length = ts.length ∧ ∀ (i : Nat) x t, xs[i]? = some x → ts[i]? = some t → Tk w x t
theorem TOk.kt {w w' : World} {xs : List (Nat × Value)} {ts : List Th} (h : TOk w xs ts) (hk : Kt w w') : TOk w' xs ts :=
  ⟨h.1, fun i x t hx ht => ⟨(h.2 i x t hx ht).1, (h.2 i x t hx ht).2.1, (h.2 i x t hx ht).2.2.kt hk⟩⟩
theorem TOk.nil (w : World) : TOk w [] [] := ⟨rfl, fun i x t hx _ => by simp at hx⟩
theorem TOk.snoc {w : World} {xs : List (Nat × Value)} {ts : List Th} (h : TOk w xs ts) {x : Nat × Value} {t : Th} (hx : Tk w x t) : TOk w (xs ++ [x]) (ts ++ [t]) := by
  refine ⟨by simp [h.1], fun i y u hy hu => ?_⟩
  by_cases hi : i < xs.length
  · rw [List.getElem?_append_left hi] at hy
    rw [List.getElem?_append_left (by rw [← h.1]; exact hi)] at hu
    exact h.2 i y u hy hu
  · rw [List.getElem?_append_right (by omega)] at hy
    rw [List.getElem?_append_right (by rw [← h.1]; omega), ← h.1] at hu
    have e : i - xs.length = 0 := by
      have := (List.getElem?_eq_some_iff.1 hy).1
      simp at this; omega
    rw [e] at hy hu
    simp at hy hu
    subst hy hu
    exact hx
theorem Try.infoThing : (Try.prog.info? 67).map (fun i => (i.zero, i.size, i.bytes)) = some (some (.agg #[.int .u8 0, .nilFunc]), 2, 16) := by kernel_rfl
theorem pair_new (w : World) (x y : Value) (e : TypeId) : ∀ j u, [x, y][j]? = some u → (w.alloc (.cells #[x, y] e)).cell? ((⟨w.heap.size, 0, none⟩ : Addr).add j) = some u := by
  intro j u hj
  match j, hj with
  | 0, hj => simp at hj; subst hj; simp [Addr.add]
  | 1, hj => simp at hj; subst hj; simp [Addr.add]
theorem pair_one (k : IntKind) (a : Int) (f : Fn) (x y : Array Value) : ∀ u ∈ [Value.int k a, Value.func f x y], u.oneCell' = true := by
  intro u hu; simp at hu; rcases hu with rfl | rfl <;> rfl
theorem Kt.grown {w w' : World} {v : Value} {base n size : Nat} {e : TypeId} {xs : List Value} (hg : w.grownBy w' v.ownBlock) (ho : w.ownsRow base e size v n xs) (he : okT e = false) : Kt w w' := by
  refine ⟨hg.size, fun k c e' z hk hok => ?_⟩
  have hlt := (Array.getElem?_eq_some_iff.1 hk).1
  rw [hg.block k hlt, hk]
  intro e1
  rcases ho.2 with ⟨hv, _⟩ | ⟨g, cap, cur, hv, _, hgk, _⟩
  · rw [hv] at e1; cases e1
  · rw [hv] at e1
    have : k = g := by simpa [Value.ownBlock] using e1
    subst this
    rw [hk] at hgk
    injection hgk with hgk
    injection hgk with _ h2 _
    rw [h2, he] at hok
    cases hok
/-- a list of things of one's own -/
def Ths (w : World) (B : Nat) (v : Value) (ts : List Th) : Prop := ∃ xs, w.ownsRow B 67 2 v ts.length (tc xs) ∧ TOk w xs ts

set_option maxHeartbeats 400000 in
set_option maxRecDepth 100000 in
theorem read_any (s : ByteArray) (w : World) (hs : s.size ≤ 4611686018427387904) :
    Calls Try.prog 19 #[.string s] w fun e w' => ((readP (bs s) = none ∧ e = .returned (.tuple #[.slice none 0 0, .bool false])) ∨ ∃ ts v, readP (bs s) = some ts ∧ ts.length ≤ s.size ∧ s.size ≤ 4096 ∧ e = .returned (.tuple #[v, .bool true]) ∧ Ths w' w.heap.size v ts) ∧ Below w.heap.size w w' := by
  have HC := hide (check_any s w hs)
  cases hP : readP (bs s) with
  | none =>
    have hcp : checkP (bs s) = false := by unfold checkP; rw [hP]; rfl
    rw [hcp] at HC
    clear hcp hP
    go_enter Try.func19, Try.ntmps19
    go_wp2_with fail
    refine (unhide HC).mono ?_
    rintro e w1 ⟨rfl, q, rfl⟩
    go_wp2_with fail
    go_ret2
    exact ⟨.inl ⟨trivial, rfl⟩, below_drew _ _⟩
  | some ts0 =>
    have hcp : checkP (bs s) = true := by unfold checkP; rw [hP]; rfl
    rw [hcp] at HC
    have hl : s.size ≤ 4096 := by
      by_cases h : 4096 < s.size
      · unfold readP at hP; rw [if_pos (by rw [bs_len]; exact h)] at hP; cases hP
      · omega
    have hA : Hid (rdA (bs s) = some ts0) := by
      unfold readP at hP; rw [if_neg (by rw [bs_len]; omega)] at hP; exact hP
    clear hcp hP
    obtain ⟨i0, hi, hz0, hz1, hz2⟩ := info_parts Try.infoThing
    go_enter Try.func19, Try.ntmps19
    go_wp2_with fail
    refine (unhide HC).mono ?_
    rintro e w1 ⟨rfl, q, rfl⟩
    clear HC
    go_wp2_with fail
    have hb0 := hide (below_drew w q)
    generalize w.drewN q = w1 at *
    go_loopw [0, 4] (fun v0 v4 wr => ∃ (v : Value) (r : ByteArray) (xs : List (Nat × Value)) (ts us : List Th), ts.length + r.size ≤ s.size ∧ v = v4 ∧ v0 = .string r ∧ Hid (wr.ownsRow w.heap.size 67 2 v4 ts.length (tc xs)) ∧ Hid (TOk wr xs ts) ∧ Hid (rdA (bs r) = some us) ∧ Hid (ts0 = ts ++ us) ∧ Hid (Below w.heap.size w wr)) (fun v0 _ _ => match v0 with | .string r => r.size | _ => 0)
    case atStart => exact ⟨_, s, [], [], ts0, by simp, rfl, rfl, World.ownsRow_nil _ _ _ _, TOk.nil _, hA, rfl, hb0⟩
    case round =>
      clear hA hb0
      obtain ⟨v4, r, xs, ts, us, hr, rfl, rfl, hO, hT, hU, hE, hB⟩ := hrel
      by_cases h0 : 0 < r.size
      · have he : r.toList.isEmpty = false := not_empty r h0
        have hn : bs r ≠ [] := by rw [bs_one r h0]; simp
        have hc := rdA_cons (bs r) hn
        rw [unhide hU] at hc
        have hk := kind_pos (bs r)
        have hk2 := kind_two (bs r)
        have hk4 := kind_four (bs r)
        have hle : (kindP (bs r)).2 ≤ (bs r).length := by
          by_cases h : (bs r).length < (kindP (bs r)).2
          · rw [if_pos h] at hc; cases hc
          · omega
        rw [if_neg (by omega)] at hc
        have HC := hide (cutThing_any r wr h0 (by omega))
        obtain ⟨us', hus', hus⟩ := Option.map_eq_some_iff.1 hc.symm
        have HE : Hid (ts0 = (ts ++ [thP (kindP (bs r)).1 ((bs r).take (kindP (bs r)).2)]) ++ us') := by rw [unhide hE, ← hus]; simp [Hid]
        clear hc hn hus hU hE
        go_wp2_with fail
        refine (unhide HC).mono ?_
        rintro e w2 ⟨⟨t, r', rfl, hcut⟩, q2, rfl⟩
        obtain ⟨ht, hr'⟩ := hcut hle
        rw [← hr'] at hus'
        rw [← ht] at HE
        have hts : t.size = (kindP (bs r)).2 := by rw [← bs_len, ht, List.length_take]; omega
        have hrs : r'.size + (kindP (bs r)).2 = r.size := by
          have := congrArg List.length hr'
          rw [List.length_drop] at this
          have e2 : (bs r).length = r.size := rfl
          have e3 : (bs r').length = r'.size := rfl
          omega
        rw [← hts] at hk hk2 hrs
        have hsz : t.size ≤ 5000 := by omega
        have HM := hide (fun W => matcher_any (kindP (bs r)).1 t W hsz hk4 hk hk2)
        have HU := hide hus'
        generalize decide ((kindP (bs r)).2 ≤ (bs r).length) = okk
        generalize (kindP (bs r)).1 = k at *
        have hB2 := hide (below_drewN (unhide hB) (unhide hB).size q2)
        have hO2 : Hid ((wr.drewN q2).ownsRow w.heap.size 67 2 v4 ts.length (tc xs)) := (unhide hO).kept (row := none) ⟨rfl, rfl, rfl, Nat.le_refl _, fun _ _ _ => rfl⟩ (by cases v4.ownBlock <;> simp)
        have hT2 := hide ((unhide hT).kt (Kt.of (below_drew wr q2)))
        generalize wr.drewN q2 = w3 at *
        clear hcut ht hr' hus' hO hT hB HC hle hts
        go_wp2_with fail
        refine (unhide HM _).mono ?_
        rintro e w4 ⟨⟨f, rfl, hf⟩, hb4⟩
        have hB4 := hide ((unhide hB2).trans (hb4.mono (unhide hB2).size))
        have hO4 : Hid (w4.ownsRow w.heap.size 67 2 v4 ts.length (tc xs)) := (unhide hO2).kept (row := none) ⟨hb4.os, hb4.tape, hb4.output, hb4.size, fun k hk _ => hb4.block k hk⟩ (by cases v4.ownBlock <;> simp)
        have hT4 := hide ((unhide hT2).kt (Kt.of hb4))
        have hK : Hid (Tk w4 (k, f) (thP k (bs t))) := ⟨hk4, rfl, hf⟩
        have hsz4 := (unhide hB4).size
        obtain ⟨id, cap, rfl, _⟩ := hf
        clear HM hb4 hB2 hO2 hT2
        go_wp2_with (at_builtin; refine wpList_append_own _ rfl _ _ 35 rfl w.heap.size 67 i0 _ 2 16 Try.underlying35 hi hz0 hz1 hz2 rfl (by decide) _ _ _ rfl ((unhide hO4).alloc _) ⟨w4.heap.size, 0, none⟩ 1 1 [.int .u8 (k : Int), .func (.func id) #[] cap] rfl rfl (pair_new _ _ _ _) (pair_one _ _ _ _ _) (by unfold maxLen; omega) (by omega) (by simp; omega) ?_; intro v' w9 hown9 hg9 hnil9)
        have hO9 : Hid (w9.ownsRow w.heap.size 67 2 v' (ts ++ [thP k (bs t)]).length (tc (xs ++ [(k, .func (.func id) #[] cap)]))) := by
          rw [tc_snoc, List.length_append]; exact hown9
        have hK9 : Kt w4 w9 := (Kt.of ((Below.refl _ _).alloc (Nat.le_refl _) _)).trans (Kt.grown hg9 ((unhide hO4).alloc _) rfl)
        have hT9 := hide (((unhide hT4).kt hK9).snoc (x := (k, .func (.func id) #[] cap)) (t := thP k (bs t)) ⟨(unhide hK).1, (unhide hK).2.1, (unhide hK).2.2.kt hK9⟩)
        have hB9 : Hid (Below w.heap.size w w9) := ((unhide hB4).alloc hsz4 _).grown hg9 (by simp; omega) (fun k hk => ((unhide hO4).lt k hk).1)
        clear hown9 hg9 hnil9 hK9 hO4 hT4 hK hB4
        go_wp2_with fail
        go_roundw
        case rel => exact ⟨_, r', _, _, us', by simp; omega, rfl, rfl, hO9, hT9, HU, HE, hB9⟩
        case measure => simp; omega
      · have he : r.toList.isEmpty = true := is_empty r (by omega)
        have hz : Hid (ts0 = ts) := by
          have h1 := unhide hU
          rw [List.eq_nil_of_length_eq_zero (l := bs r) (by rw [bs_len]; omega), rdA_nil] at h1
          injection h1 with h1
          rw [unhide hE, ← h1]; simp [Hid]
        have hfin : Hid (Ths wr w.heap.size v4 ts0) := by
          rw [unhide hz]
          exact ⟨xs, unhide hO, unhide hT⟩
        have hlen : Hid (ts0.length ≤ s.size) := by
          show _ ≤ _
          rw [unhide hz]; omega
        clear hU hE hT hz
        obtain ⟨av, nv, cv, hv4⟩ : ∃ a n c, v4 = .slice a n c := by
          rcases (unhide hO).2 with ⟨hv, _⟩ | ⟨g, cap, cur, hv, _⟩ <;> exact ⟨_, _, _, hv⟩
        subst hv4
        clear hO
        go_wp2_with fail
        go_ret2
        exact ⟨.inr ⟨_, _, rfl, unhide hlen, hl, rfl, unhide hfin⟩, unhide hB⟩
end Go.Proofs.Ytelijbnamiefcaa.Gl
