/- SortsTurned returns true, if Sort and alive answer as they should. -/
import Derived.Test.YtjfjhpakkflceabDoorSoSame
import Derived.OwnWalk
import Derived.Laws.AppendOwnNone
namespace Go.Proofs.YtjfjhpakkflceabDoor.So
open Go.RowKit Go.Shelf Ky
open Pa (Tx tot)

attribute [local go_sem] Oper.semAt_some

/-- 'append(v, xs...)', v the call's own, xs nil or not -/
theorem append_onto {P : Program} {w : World} {ops : Array Oper} {rest : List Oper} {o : Oper} {a : Act} {Q : Exit → Act → World → Prop} (hgd : o.guard = none) (s x : Operand) (t : TypeId)
    (ho : o.op = .call { callee := .builtin .append, args := #[s, x], argTypes := #[t, t] })
    (base : Nat) (e : TypeId) (i : TypeInfo) (z : Value) (size bytes : Nat) (ht : P.underlying t = some (.slice e)) (hi : P.info? e = some i) (hz : i.zero = some z)
    (hsize : i.size = size) (hby : i.bytes = bytes) (hzs : z.cells.size = size) (hsz : 0 < size)
    (v : Value) (n : Nat) (xs : List Value) (hs : a.eval s = v) (hown : w.ownsRow base e size v n xs)
    (ao : Option Addr) (m c : Nat) (news : List Value) (hx : a.eval x = .slice ao m c) (hnone : ao = none → m = 0 ∧ c = 0) (hl : news.length = m * size)
    (hnews : ∀ ad, ao = some ad → ∀ j u, news[j]? = some u → w.cell? (ad.add j) = some u) (h1 : ∀ u ∈ news, u.oneCell' = true)
    (h63 : n + m ≤ maxLen) (hbytes : (n + m) * bytes ≤ 140737488355328) (hbase : base ≤ w.heap.size)
    (h : ∀ v' w', w'.ownsRow base e size v' (n + m) (xs ++ news) → w.grownBy w' v.ownBlock → wpList P ops Q rest (a.put o.dst v') w') : wpList P ops Q (o :: rest) a w := by
  cases ao with
  | none =>
    obtain ⟨rfl, rfl⟩ := hnone rfl
    have : news = [] := List.eq_nil_of_length_eq_zero (by omega)
    subst this
    exact wpList_append_own_none hgd s x t ho base e i size ht hi v n xs hs hown hx (h _ _ (by simpa using hown) (World.grownBy.refl _ _))
  | some ad =>
    refine wpList_append_own w hgd s x t ho base e i z size bytes ht hi hz hsize hby hzs hsz v n xs hs hown ad m c news hx hl (hnews ad rfl) h1 h63 hbytes hbase ?_
    intro v' w' hown hgrow _
    exact h v' w' hown hgrow
theorem tx_src {w : World} {a : Option Addr} {n cap : Nat} {ss : Ls} (h : Tx w a n cap ss) : ∀ ad, a = some ad → ∀ j u, (strs ss)[j]? = some u → w.cell? (ad.add j) = some u := by
  intro ad ha j u hu
  have hl := h.len
  have hj : j < n := by
    rcases Nat.lt_or_ge j n with hj | hj
    · exact hj
    · rw [List.getElem?_eq_none (by rw [strs_len]; omega)] at hu; cases hu
  obtain ⟨g, off, hg, _, hc⟩ := tx_at h hj
  rw [hg] at ha
  obtain rfl := Option.some.inj ha
  rw [Pa.add_none, hc]
  rw [← hu]
  simp [strs, List.getD, List.getElem?_eq_getElem (show j < ss.length by omega)]
/-- the lines from a place on, the other way about, and those ahead of it -/
def turn (A : Ls) (k : Nat) : Ls := (A.drop k).reverse ++ A.take k
theorem turn_perm (A : Ls) (k : Nat) : (turn A k).Perm A := by
  unfold turn
  refine ((List.reverse_perm _).append_right _).trans ?_
  refine List.perm_append_comm.trans ?_
  rw [List.take_append_drop]
theorem drop_rev (A : Ls) (m : Nat) (h : m < A.length) : (A.drop m).reverse = (A.drop (m + 1)).reverse ++ [A.getD m ByteArray.empty] := by
  rw [drop_at h, List.reverse_cons]
theorem rev_at (M : Ls) (k : Nat) (h : k < M.length) : M.reverse.getD (M.length - 1 - k) ByteArray.empty = M.getD k ByteArray.empty := by
  simp only [List.getD_eq_getElem?_getD]
  rw [List.getElem?_reverse (by omega), show M.length - 1 - (M.length - 1 - k) = k by omega]
theorem tx_keep {w : World} {a : Option Addr} {n cap : Nat} {ss : Ls} (h : Tx w a n cap ss) (p : Addr) (v : Value) (hp : ∀ ad, a = some ad → ad.block ≠ p.block) : Tx (w.setCell p v) a n cap ss := by
  refine ⟨h.len, h.le, h.nil, ?_⟩
  rcases h.cells with h0 | ⟨g, off, e, hlt, hc⟩
  · exact .inl h0
  · refine .inr ⟨g, off, e, by simpa [World.setCell] using hlt, fun i hi => ?_⟩
    have hb := Below.heap_setCell w p v g (hp _ e)
    exact (World.cell?_of_block (w := w) (a := ⟨g, off + i, none⟩) hb).trans (hc i hi)
theorem slice_upto {a : Option Addr} {n cap : Nat} (hle : n ≤ cap) (hnil : a = none → n = 0 ∧ cap = 0) (k : Nat) (hk : k ≤ n) (W : World) : Sem.run Tryd.prog (Instr.slice 24 (.slice a n cap) none (some (.int .i64 (k : Int))) none) W = .ok (.slice a k cap) W := by
  cases a with
  | none =>
    obtain ⟨rfl, rfl⟩ := hnil rfl
    obtain rfl : k = 0 := by omega
    simp [go_sem, Tryd.underlying24, sliced]
  | some ad =>
    have h1 : k ≤ cap := by omega
    simp [go_sem, Tryd.underlying24, sliced, h1]
theorem hd_rev {w W : World} {o : Ky.Ord} (h : Hd w o W) (r : Bool) : Hd w { o with rev := r } (W.setCell ⟨w.heap.size, 3, none⟩ (.bool r)) := ⟨h.1.rev r, h.2.setCell (p := ⟨w.heap.size, 3, none⟩) (Nat.le_refl _) _⟩

set_option maxRecDepth 100000 in
set_option maxHeartbeats 1000000 in
theorem sortsTurned_any (AL : AliveSays) (HS : SortSays) (o : Ky.Ord) (A : Ls) (at' : Nat) (hat : at' ≤ 65535) (a : Option Addr) (la ca : Nat) (w : World) (hT : Tx w a la ca A) (hl : la ≤ 4611686018427387904) (hca : ca ≤ 9223372036854775807) (hs : ∀ s ∈ A, s.size ≤ 4611686018427387904) :
    Calls Tryd.prog 3 #[ov o, .slice a la ca, .int .u16 at'] w fun e w' => e = .returned (.bool true) ∧ Below w.heap.size w w' := by
  obtain ⟨i0, hi, hz0, hz1, hz2⟩ := info_parts Pa.Tryd.infoStr
  have AL1 := hide AL
  have CK := hide (fun W => check_any o W)
  unfold AliveSays at AL1
  unfold ov at CK ⊢
  have H0 : Hid (Hd w o (w.alloc (.cells #[.bool o.num, .bool o.fold, .bool o.bls, .bool o.rev, .int .i64 o.fr, .int .i64 o.«to», .int .u8 (o.sep.toNat : Int)] 23))) := Hd.new w o
  have HT := hide hT
  have FW : Hid (∀ W, Hd w o W → Calls Tryd.prog 6 #[.slice (some ⟨W.heap.size, 0, none⟩) 1 1] (W.alloc (.cells #[.slice a la ca] 24)) fun e w' => ∃ r : Bool, e = .returned (.bool r) ∧ (r = true → la ≤ 300 ∧ la + tot A ≤ 20000) ∧ Below (W.alloc (.cells #[.slice a la ca] 24)).heap.size (W.alloc (.cells #[.slice a la ca] 24)) w') := fun W h =>
    few_one A a la ca W.heap.size _ (by simp) ((hT.below h.2).below ((Below.refl _ W).alloc (Nat.le_refl _) _)) hl hs
  have hlen := hide hT.len
  clear hT
  go_enter Tryd.func3, Tryd.ntmps3
  go_wp2_with fail
  refine (unhide AL1 _).mono ?_
  rintro e w1 ⟨rfl, b1⟩
  have H1 := hide ((unhide H0).step b1)
  clear b1 H0
  go_wp2_with fail
  refine (unhide FW _ (unhide H1)).mono ?_
  rintro e w2 ⟨r, rfl, hr, b2⟩
  have H2 := hide (((unhide H1).step ((Below.refl _ w1).alloc (Nat.le_refl _) (.cells #[.slice a la ca] 24))).step b2)
  clear b2 H1 FW
  obtain ⟨d0, d1, d2, d3, d4, d5, d6⟩ := (unhide H2).1.cells
  cases r
  · clear hr
    go_wp2_with fail
    refine (unhide AL1 _).mono ?_
    rintro e w3 ⟨rfl, b3⟩
    have H3 := hide ((unhide H2).step b3)
    clear b3 H2
    go_wp2_with fail
    go_ret
    exact ⟨rfl, (unhide H3).2⟩
  · obtain ⟨hf1, hf2⟩ := hr rfl
    clear hr
    go_wp2_with fail
    refine (unhide CK _).mono ?_
    rintro e w3 ⟨rfl, b3⟩
    have H3 := hide ((unhide H2).step b3)
    clear b3 H2 d0 d1 d2 d3 d4 d5 d6
    cases hok : okO o
    · go_wp2_with fail
      refine (unhide AL1 _).mono ?_
      rintro e w4 ⟨rfl, b4⟩
      have H4 := hide ((unhide H3).step b4)
      clear b4 H3
      go_wp2_with fail
      go_ret
      exact ⟨rfl, (unhide H4).2⟩
    · have hAs : ∀ s ∈ A, s.size ≤ 1073741000 := fun s h => by have := tot_mem h; omega
      have hE : sortE o la = 0 := by unfold sortE; rw [hok, if_neg (by simp), if_neg (by omega)]
      have hE1 : sortE o A.length = 0 := by rw [unhide hlen]; exact hE
      have hE2 : sortE { o with rev := !o.rev } la = 0 := hE
      obtain ⟨M, hM⟩ : ∃ M, M = sortL o false A := ⟨_, rfl⟩
      have hMl : M.length = la := by rw [hM, sortL_len, unhide hlen]
      have S1 : Hid (∀ (B : Ls) (y : Option Addr) (cy : Nat) (W : World), B.Perm A → Tx W y la cy B → cy ≤ 9223372036854775807 → Calls Tryd.prog 8 #[.agg #[.bool o.num, .bool o.fold, .bool o.bls, .bool o.rev, .int .i64 o.fr, .int .i64 o.«to», .int .u8 (o.sep.toNat : Int)], .slice y la cy, .bool false] W fun e w' => ∃ x c, e = .returned (.tuple #[.slice x la c, .int .i64 0]) ∧ (Tx w' x la c M ∧ ∀ ad, x = some ad → W.heap.size ≤ ad.block) ∧ Below W.heap.size W w') := fun B y cy W hp h hc =>
        (HS o false B y la cy W h hl hc (fun _ s q => hAs s (hp.subset q))).mono fun e w' q => by
          obtain ⟨v, h1, h2, h3⟩ := q
          have hB : sortA o false B = M := by unfold sortA; rw [h.len, hE, if_pos rfl, hM]; exact sort_perm o hp
          rw [hB] at h2
          have h6 := fun k (hk : v.ownBlock = some k) => (h2.lt k hk).1
          obtain ⟨x, c, rfl, h4, h5⟩ := own_tx h2
          rw [hMl] at h4 h1
          exact ⟨x, c, by rw [h1, hE], ⟨h4, fun ad e => h6 ad.block (by rw [e]; rfl)⟩, h3⟩
      have S3 : Hid (∀ W, Tx W a la ca A → Calls Tryd.prog 8 #[.agg #[.bool o.num, .bool o.fold, .bool o.bls, .bool (!o.rev), .int .i64 o.fr, .int .i64 o.«to», .int .u8 (o.sep.toNat : Int)], .slice a la ca, .bool false] W fun e w' => ∃ x c, e = .returned (.tuple #[.slice x la c, .int .i64 0]) ∧ Tx w' x la c M.reverse ∧ Below W.heap.size W w') := fun W h =>
        (HS { o with rev := !o.rev } false A a la ca W h hl hca (fun _ => hAs)).mono fun e w' q => by
          obtain ⟨v, h1, h2, h3⟩ := q
          have hB : sortA { o with rev := !o.rev } false A = M.reverse := by unfold sortA; rw [h.len, hE2, if_pos rfl, hM]; exact sort_turned o A
          rw [hB] at h2
          obtain ⟨x, c, rfl, h4, h5⟩ := own_tx h2
          rw [List.length_reverse, hMl] at h4 h1
          exact ⟨x, c, by rw [h1, hE2], h4, h3⟩
      obtain ⟨k, hk⟩ : ∃ k, k = at' % (la + 1) := ⟨_, rfl⟩
      have hkl : k ≤ la := by have := Nat.mod_lt at' (show 0 < la + 1 by omega); omega
      have ek : ((at' : Int)).tmod ((la : Int) + 1) = (k : Int) := by
        rw [show ((la : Int) + 1) = ((la + 1 : Nat) : Int) by omega, hk]; rfl
      have HK := hide hk
      clear AL1 CK hE hE1 hE2 hM hok hAs AL HS hk
      have hzw : w.heap.size < w3.heap.size := (unhide H3).1.lt
      go_wp2_with fail
      go_loopg [8, 9] (la - k) (fun gm v8 v9 wr => ∃ m : Nat, k ≤ m ∧ m ≤ la ∧ gm = m - k ∧ v9 = .int .i64 ((m : Int) - 1) ∧ Hid (wr.ownsRow w3.heap.size 9 1 v8 (la - m) (strs (A.drop m).reverse)) ∧ Hid (Hd w o wr) ∧ w3.heap.size ≤ wr.heap.size)
      case atStart => exact ⟨la, hkl, Nat.le_refl _, rfl, rfl, by rw [Nat.sub_self, List.drop_eq_nil_of_le (by rw [unhide hlen]; exact Nat.le_refl _)]; exact World.ownsRow_nil _ _ _ _, H3, Nat.le_refl _⟩
      case round =>
        obtain ⟨m, hkm, hml, rfl, rfl, hO, hH, hz3⟩ := hrel
        obtain ⟨s0, s1, s2, hv8⟩ := sl_of_own (unhide hO)
        subst hv8
        by_cases hlt : k < m
        · obtain ⟨q, rfl⟩ : ∃ q, m = q + 1 := ⟨m - 1, by omega⟩
          have eq : (((q + 1 : Nat) : Int) - 1) = (q : Int) := by omega
          rw [eq]
          have hkq : (k : Int) ≤ (q : Int) := by omega
          obtain ⟨g, off, ha0, hgl, ci⟩ := tx_at (unhide HT) (show q < la by omega)
          subst ha0
          have c1 := ((unhide hH).2.cell (p := ⟨g, off + q, none⟩) hgl).trans ci
          have hdr := hide (drop_rev A q (by rw [unhide hlen]; omega))
          generalize A.getD q ByteArray.empty = x at c1 hdr
          clear ci eq hlt
          go_wp2_with (at_builtin; refine wpList_append_own _ rfl _ _ 24 rfl w3.heap.size 9 i0 _ 1 16 Tryd.underlying24 hi hz0 hz1 hz2 rfl (by decide) _ _ _ rfl ((unhide hO).alloc _) ⟨wr.heap.size, 0, none⟩ 1 1 [.string x] rfl rfl (one_new2 _ _ _) (one_one2 _) (by unfold maxLen; omega) (by omega) (by simp; omega) ?_)
          intro v1 w5 hO1 hg1 _
          have hbk : w5.heap[w.heap.size]? = wr.heap[w.heap.size]? := (hg1.block _ (by simp; omega) (fun e => by have := ((unhide hO).lt _ e.symm).1; omega)).trans (Below.heap_alloc _ _ _ (by omega))
          have hH5 : Hid (Hd w o w5) := ⟨hbk.trans (unhide hH).1, ((unhide hH).2.alloc (unhide hH).2.size _).grown hg1 (by simp; omega) (fun z ez => by have := ((unhide hO).lt z ez).1; omega)⟩
          have hz5 : w3.heap.size ≤ w5.heap.size := Nat.le_trans hz3 (Nat.le_trans (by simp) hg1.size)
          have hO3 : Hid (w5.ownsRow w3.heap.size 9 1 v1 (la - q) (strs (A.drop q).reverse)) := by
            show w5.ownsRow _ _ _ _ _ _
            rw [unhide hdr, strs_snoc, show la - q = la - (q + 1) + 1 by omega]
            exact hO1
          obtain ⟨y0, y1, y2, hv1⟩ := sl_of_own hO1
          subst hv1
          clear hO1 hg1 hbk hO hH
          go_wp2_with fail
          go_roundg (q - k)
          case measure => omega
          case rel => exact ⟨q, by omega, by omega, rfl, by go_num, hO3, hH5, hz5⟩
        · obtain rfl : m = k := by omega
          have hlt' : ¬ (m : Int) ≤ (m : Int) - 1 := by omega
          have hTw := hide ((unhide HT).below (unhide hH).2)
          have hle := (unhide HT).le
          have htk : Hid (turn A m = (A.drop m).reverse ++ A.take m) := rfl
          have hsu := fun W => slice_upto hle (unhide HT).nil m hml W
          have hTk : Hid (∀ W, Below w.heap.size w W → Tx W a m ca (A.take m)) := fun W hB => tx_take ((unhide HT).below hB) m hml
          have hnl : Hid (a = none → m = 0 ∧ ca = 0) := fun e => ⟨by have := ((unhide HT).nil e).1; omega, ((unhide HT).nil e).2⟩
          have hLn : Hid ((strs (A.take m)).length = m * 1) := by show _ = _; rw [strs_len, List.length_take, unhide hlen]; omega
          obtain ⟨hsz, hblw⟩ : w.heap.size < wr.heap.size ∧ True := ⟨(unhide hH).1.lt, trivial⟩
          clear hblw
          go_wp2_with (at_builtin; refine append_onto rfl _ _ 24 rfl w3.heap.size 9 i0 _ 1 16 Tryd.underlying24 hi hz0 hz1 hz2 rfl (by decide) _ _ _ rfl (unhide hO) a m ca (strs (A.take m)) rfl (unhide hnl) (unhide hLn) (tx_src (unhide hTk _ (unhide hH).2)) (strs_one _) (by unfold maxLen; omega) (by omega) hz3 ?_)
          intro v5 w5 hO5 hg5
          have hbk : w5.heap[w.heap.size]? = wr.heap[w.heap.size]? := hg5.block _ (by omega) (fun e => by have := ((unhide hO).lt _ e.symm).1; omega)
          have hH5 : Hid (Hd w o w5) := ⟨hbk.trans (unhide hH).1, (unhide hH).2.grown hg5 (by omega) (fun z ez => by have := ((unhide hO).lt z ez).1; omega)⟩
          have hO6 : w5.ownsRow w3.heap.size 9 1 v5 (turn A m).length (strs (turn A m)) := by
            have hL : (turn A m).length = la := by rw [(turn_perm A m).length_eq, unhide hlen]
            rw [hL, unhide htk, strs_app]
            exact hO5
          obtain ⟨yT, cT, hv5, tT, qT⟩ := own_tx hO6
          rw [(turn_perm A m).length_eq, unhide hlen] at hv5 tT
          subst hv5
          have TT := hide tT
          clear hO5 hg5 hO6 tT hbk hO hH hTw hTk hLn hnl hsu htk
          obtain ⟨d0, d1, d2, d3, d4, d5, d6⟩ := (unhide hH5).1.cells
          have TA5 := hide ((unhide HT).below (unhide hH5).2)
          go_wp2_with fail
          refine (unhide S1 A a ca w5 (.refl _) (unhide TA5) hca).mono ?_
          rintro e w6 ⟨x6, c6, rfl, ⟨t6, n6⟩, b6⟩
          have N6 : ∀ ad, x6 = some ad → ad.block ≠ w.heap.size := fun ad e => by have := n6 ad e; have := (unhide hH5).1.lt; omega
          have HN6 := hide N6
          have H6 := hide ((unhide hH5).step b6)
          have T6 := hide t6
          have TT6 := hide ((unhide TT).below b6)
          clear b6 t6 TT TA5 hH5 n6 N6 d0 d1 d2 d3 d4 d5 d6
          obtain ⟨d0, d1, d2, d3, d4, d5, d6⟩ := (unhide H6).1.cells
          go_wp2_with fail
          refine (unhide S1 (turn A m) yT cT w6 (turn_perm A m) (unhide TT6) qT).mono ?_
          rintro e w7 ⟨x7, c7, rfl, ⟨t7, n7⟩, b7⟩
          have N7 : ∀ ad, x7 = some ad → ad.block ≠ w.heap.size := fun ad e => by have := n7 ad e; have := (unhide H6).1.lt; omega
          have HN7 := hide N7
          have H7 := hide ((unhide H6).step b7)
          have T67 := hide ((unhide T6).below b7)
          have T7 := hide t7
          clear b7 t7 TT6 T6 H6 S1 n7 N7 d0 d1 d2 d3 d4 d5 d6
          obtain ⟨d0, d1, d2, d3, d4, d5, d6⟩ := (unhide H7).1.cells
          have f3 := (unhide H7).1.frozen 3
          have H8 := hide (hd_rev (unhide H7) (!o.rev))
          have hsz7 : w.heap.size < w7.heap.size := (unhide H7).1.lt
          have TA8 := hide ((unhide HT).below (unhide H8).2)
          have T68 := hide (tx_keep (unhide T67) ⟨w.heap.size, 3, none⟩ (.bool (!o.rev)) (unhide HN6))
          have T78 := hide (tx_keep (unhide T7) ⟨w.heap.size, 3, none⟩ (.bool (!o.rev)) (unhide HN7))
          clear T67 T7 H7 HN6 HN7
          go_wp2_with fail
          refine (unhide S3 _ (unhide TA8)).mono ?_
          rintro e w9 ⟨x9, c9, rfl, t9, b9⟩
          have B9 : Hid (Below w.heap.size w w9) := (unhide H8).2.trans (b9.mono (unhide H8).2.size)
          have T69 := hide ((unhide T68).below b9)
          have T79 := hide ((unhide T78).below b9)
          have T9 := hide t9
          clear b9 t9 T68 T78 TA8 H8 S3 d0 d1 d2 d3 d4 d5 d6 f3
          go_wp2_with fail
          refine (Pa.sameTexts_any x6 x7 la c6 c7 c6 c7 M w9 hl (unhide T69) (unhide T79)).mono ?_
          rintro e w10 ⟨rfl, b10⟩
          have B10 : Hid (Below w.heap.size w w10) := (unhide B9).trans (b10.mono (unhide B9).size)
          have T610 := hide ((unhide T69).below b10)
          have T910 := hide ((unhide T9).below b10)
          clear b10 T69 T79 T9 B9
          go_wp2_with fail
          go_loopw [16] (fun v16 wz => ∃ j : Nat, j ≤ la ∧ v16 = .int .i64 (j : Int) ∧ Hid (Below w10.heap.size w10 wz)) (fun v16 _ => la - (intOf v16).toNat)
          case atStart => exact ⟨0, Nat.zero_le _, rfl, Below.refl _ _⟩
          case round =>
            obtain ⟨j, hjl, rfl, hBz⟩ := hrel
            by_cases hj : j < la
            · have hj' : (j : Int) < (la : Int) := by omega
              obtain ⟨z, hz⟩ : ∃ z, z = la - 1 - j := ⟨_, rfl⟩
              have e1 : (la : Int) - 1 - (j : Int) = (z : Int) := by omega
              have hzl : z < la := by omega
              have hzl' : (z : Int) < (la : Int) := by omega
              have hw1 : IntKind.i64.wrap ((la : Int) - 1) = (la : Int) - 1 := by rw [IntKind.wrap_i64]; omega
              have hw2 : IntKind.i64.wrap ((la : Int) - 1 - (j : Int)) = (z : Int) := by rw [IntKind.wrap_i64]; omega
              have hw3 : IntKind.i64.wrap (z : Int) = (z : Int) := by rw [IntKind.wrap_i64]; omega
              obtain ⟨g6, o6, q6, hg6, e6⟩ := tx_at (unhide T610) hj
              obtain ⟨g9, o9, q9, hg9, e9⟩ := tx_at (unhide T910) hzl
              have hre : M.reverse.getD z ByteArray.empty = M.getD j ByteArray.empty := by have := rev_at M j (by omega); rw [hMl] at this; rw [hz]; exact this
              rw [hre] at e9
              subst q6 q9
              have k6 := ((unhide hBz).cell (p := ⟨g6, o6 + j, none⟩) hg6).trans e6
              have k9 := ((unhide hBz).cell (p := ⟨g9, o9 + z, none⟩) hg9).trans e9
              generalize M.getD j ByteArray.empty = x at k6 k9
              have hBd := hide (unhide hBz).drew
              clear e6 e9 hre hz
              go_wp2_with fail
              go_region
              go_wp2_with fail
              go_roundw
              case rel => exact ⟨j + 1, by omega, by go_num, hBd⟩
              case measure => simp [intOf]; omega
            · have hj' : ¬ (j : Int) < (la : Int) := by omega
              go_wp2_with fail
              go_ret
              exact ⟨rfl, (unhide B10).trans ((unhide hBz).mono (unhide B10).size)⟩
end Go.Proofs.YtjfjhpakkflceabDoor.So
