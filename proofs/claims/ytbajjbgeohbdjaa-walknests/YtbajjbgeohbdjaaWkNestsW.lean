/- WalkNests: the law, walked. -/
import Derived.Test.YtbajjbgeohbdjaaWkNestP
import Derived.Test.YtbajjbgeohbdjaaWkLives
import Derived.Test.YtbajjbgeohbdjaaWkGreat
import Derived.BigQuiet
import Derived.Deep.RegionHeld3
namespace Go.Proofs.Ytbajjbgeohbdjaa.Wk
open Go.RowKit Go.Proofs.Ytbajjbgeohbdjaa.Cu Go.Proofs.Ytbajjbgeohbdjaa.Tr Go.Proofs.Ytbajjbgeohbdjaa.Pm Go.Proofs.Ytbajjbgeohbdjaa.Pt

theorem walkP_ok {now : Int} {ns : List Nd} {e : Ev} {p : ByteArray} {deep : Int} : ((walkP now ns e p deep).2.2 ≠ 0 ∧ (walkP now ns e p deep).1 = []) ∨ ((walkP now ns e p deep).2.2 = 0 ∧ checkP now ns = true ∧ ∃ n, In ns 34 n ∧ (walkP now ns e p deep).1 = wkP ns e deep 34 0 p n) := by
  unfold walkP
  by_cases h1 : (findA now ns e p false).2 ≠ 0
  · rw [if_pos h1]; exact .inl ⟨h1, rfl⟩
  rw [if_neg h1]
  by_cases h2 : (findA now ns e p false).1.node = 0
  · rw [if_pos h2]; exact .inl ⟨by decide, rfl⟩
  rw [if_neg h2]
  have h1' : (findA now ns e p false).2 = 0 := by simpa using h1
  have hc : checkP now ns = true := by
    unfold findA at h1'
    split at h1'
    · cases h1'
    · rename_i hq
      rw [someP_is] at hq
      cases hc : checkP now ns with
      | true => rfl
      | false => rw [hc] at hq; simp at hq
  obtain ⟨k, hk, hkn, hk0⟩ := (Ca.find_ok h1').node hc
  refine .inr ⟨rfl, hc, k, ?_, by rw [hk]; rfl⟩
  have hkp : 0 < k := by omega
  refine in_start hc hkp hkn ?_
  rcases hk0 with h | h
  · omega
  · exact h
/-- a row without its last one -/
theorem row_cut {w : World} {N : Nat} {e : TypeId} {size g n cap : Nat} {xs ys : List Value} (h : w.ownsRow N e size (.slice (some ⟨g, 0, none⟩) (n + 1) cap) (n + 1) (xs ++ ys)) (hx : xs.length = n * size) : w.ownsRow N e size (.slice (some ⟨g, 0, none⟩) n cap) n xs := by
  refine ⟨hx, ?_⟩
  rcases h.2 with ⟨h1, _⟩ | ⟨g', cap', cur, hv, hb, hg, h1, h2, h3, h4⟩
  · simp at h1
  · simp at hv
    obtain ⟨rfl, rfl⟩ := hv
    refine .inr ⟨g, cap, cur, rfl, hb, hg, by omega, h2, h3, ?_⟩
    have : (cur.toList.take ((n + 1) * size)).take (n * size) = (xs ++ ys).take (n * size) := by rw [h4]
    rw [List.take_take, Nat.min_eq_left (Nat.mul_le_mul_right _ (Nat.le_succ n))] at this
    rw [this, ← hx, List.take_left']
    rfl
theorem stc_len (l : List Sp) : (stc l).length = l.length * 4 := by
  induction l with
  | nil => rfl
  | cons s l ih => simp [stc, sc] at ih ⊢; omega
theorem row_form {w : World} {N : Nat} {e : TypeId} {size n : Nat} {v : Value} {xs : List Value} (h : w.ownsRow N e size v n xs) : ∃ a c, v = .slice a n c := by
  rcases h.2 with ⟨hv, h0⟩ | ⟨g, cap, cur, hv, _⟩
  · exact ⟨none, 0, by rw [hv, h0]⟩
  · exact ⟨_, _, hv⟩
theorem st_drop {l : List Sp} {k : Nat} (h : k < l.length) : l.drop k = st l k :: l.drop (k + 1) := by
  rw [List.drop_eq_getElem_cons h]; simp [st, List.getD, List.getElem?_eq_getElem h]
theorem st_mem {l : List Sp} {k : Nat} (h : k < l.length) : st l k ∈ l := by
  have : st l k = l[k] := by simp [st, List.getD, List.getElem?_eq_getElem h]
  rw [this]; exact List.getElem_mem h
theorem own_box {w : World} {B : Nat} {e t : TypeId} {s n b : Nat} {v : Value} {x : List Value} {c : Array Value} (h : w.ownsRow B e s v n x) (hb : w.heap[b]? = some (.cells c t)) (he : t ≠ e) : v.ownBlock ≠ some b := by
  intro hk
  rcases h.2 with ⟨rfl, _⟩ | ⟨g, _, _, rfl, _, hg, _⟩
  · cases hk
  simp only [Value.ownBlock, Option.some.injEq] at hk
  subst hk
  rw [hb] at hg
  injection Option.some.inj hg with _ q _
  exact he q
/-- what the loop of the law keeps -/
structure Nt (ns : List Nd) (deep : Int) (N : Nat) (w2 : World) (L : List Sp) (k : Nat) (vo vs : Value) (X : World) : Prop where
  le : k ≤ L.length
  st : ∃ (o : List Sp) (seen : List ByteArray), X.ownsRow N tyS 4 vo o.length (stc o) ∧ X.ownsRow N 9 1 vs seen.length (seen.map Value.string) ∧ nestOk ns deep (L.drop k) o seen ∧ o.length ≤ k ∧ seen.length ≤ k
  below : Below N w2 X
set_option maxRecDepth 100000 in
set_option maxHeartbeats 4000000 in
theorem nests_walk (a : Option Addr) (n cap : Nat) (ns : List Nd) (now : Int) (e : Ev) (s : ByteArray) (deep : Int) (w : World) (hg : Ng w a n cap ns) (hn : n ≤ 281474976710656) (hr : ∀ i, i < n → Rb (nd ns i)) :
    Calls Try.prog 3 #[.agg (wa a n cap now e s deep)] w fun r w' => r = .returned (.bool true) ∧ Below w.heap.size w w' := by
  obtain ⟨i0, hi0, hz0, hz1, hz2⟩ := info_parts Try.infoStep
  obtain ⟨j0, hj0, hy0, hy1, hy2⟩ := info_parts Ln.Try.infoStr
  obtain ⟨W1, hW1⟩ : ∃ W1, W1 = w.alloc (.cells (wa a n cap now e s deep) 28) := ⟨_, rfl⟩
  have hb1 : Below w.heap.size w W1 := by rw [hW1]; exact (Below.refl _ _).alloc (Nat.le_refl _) _
  have hx1 : W1.heap[w.heap.size]? = some (.cells (wa a n cap now e s deep) 28) := by rw [hW1]; exact heap_alloc_new _ _
  have HQ := hide (wgreat_any a n cap ns now e s deep W1 (hg.below hb1) hn hr)
  have HB1 := hide hb1
  have HX1 := hide hx1
  have HG := hide hg
  have HLv := hide lives_any
  obtain ⟨u, g, mk, dr⟩ := e
  have look : ∀ W : World, W.heap[w.heap.size]? = some (.cells (wa a n cap now ⟨u, g, mk, dr⟩ s deep) 28) → W.cell? ⟨w.heap.size, 0, none⟩ = some (.slice a n cap) ∧ W.cell? ⟨w.heap.size, 1, none⟩ = some (.int .i64 now) ∧ W.cell? ⟨w.heap.size, 2, none⟩ = some (.int .i64 u) ∧ W.cell? ⟨w.heap.size, 3, none⟩ = some (.int .i64 g) ∧ W.cell? ⟨w.heap.size, 4, none⟩ = some (.int .i64 mk) ∧ W.cell? ⟨w.heap.size, 5, none⟩ = some (.int .i64 dr) ∧ W.cell? ⟨w.heap.size, 6, none⟩ = some (.string s) ∧ W.cell? ⟨w.heap.size, 7, none⟩ = some (.int .i64 deep) := fun W h => by
    refine ⟨?_, ?_, ?_, ?_, ?_, ?_, ?_, ?_⟩ <;> (rw [cell_of_row _ _ _ _ _ _ h]; rfl)
  have HLk := hide look
  clear hg hr hb1 hx1 look
  go_enter Try.func3, Try.ntmps3
  go_upto_region 1 with fail
  rw [← hW1]
  clear hW1
  obtain ⟨c0, c1, c2, c3, c4, c5, c6, c7⟩ := unhide HLk W1 (unhide HX1)
  go_wp2_with fail
  refine (unhide HQ).mono ?_
  rintro r w2 ⟨⟨q, rfl, hq⟩, b2⟩
  have HB2 := hide ((unhide HB1).trans (b2.mono (unhide HB1).size))
  have HX2 := hide ((b2.block _ (Array.getElem?_eq_some_iff.1 (unhide HX1)).1).trans (unhide HX1))
  clear c0 c1 c2 c3 c4 c5 c6 c7 b2 HQ HB1 HX1
  cases q with
  | true =>
    clear hq
    go_wp2_with fail
    refine (unhide HLv w2).mono ?_
    rintro r w3 ⟨rfl, b3⟩
    have HB3 := hide ((unhide HB2).trans (b3.mono (unhide HB2).size))
    clear b3
    go_wp2
    go_ret
    exact ⟨rfl, unhide HB3⟩
  | false =>
  obtain ⟨hq1, hq2⟩ := hq rfl
  have hs := sm_of_size hq1
  have HW := hide (walk_any now a n cap ns ⟨u, g, mk, dr⟩ s deep w2 ((unhide HG).below (unhide HB2)) hs (by omega))
  have HOK := hide (walkP_ok (now := now) (ns := ns) (e := ⟨u, g, mk, dr⟩) (p := s) (deep := deep))
  obtain ⟨A, hA⟩ : ∃ A, A = walkP now ns ⟨u, g, mk, dr⟩ s deep := ⟨_, rfl⟩
  rw [← hA] at HW HOK
  clear hA hq hs hq1
  obtain ⟨L, SH, er⟩ := A
  simp only at HW HOK
  obtain ⟨c0, c1, c2, c3, c4, c5, c6, c7⟩ := unhide HLk w2 (unhide HX2)
  go_wp2_with fail
  refine (unhide HW).mono ?_
  rintro r w3 ⟨v1, v2, rfl, hr1, hr2, b3⟩
  obtain ⟨a1, k1, rfl, hs1⟩ := sg_of_row hr1
  have HB3 := hide ((unhide HB2).trans (b3.mono (unhide HB2).size))
  have HX3 := hide ((b3.block _ (Array.getElem?_eq_some_iff.1 (unhide HX2)).1).trans (unhide HX2))
  have HS := hide hs1
  clear c0 c1 c2 c3 c4 c5 c6 c7 b3 HW HB2 HX2 hr1 hr2 hs1
  by_cases her : er = 0
  case neg =>
    have hL : L = [] := by
      rcases unhide HOK with h | h
      · exact h.2
      · exact absurd h.1 her
    subst hL
    have her' : (er != 0) = true := by simp [her]
    clear HOK her HS
    go_wp2_with fail
    refine (unhide HLv w3).mono ?_
    rintro r w4 ⟨rfl, b4⟩
    have HB4 := hide ((unhide HB3).trans (b4.mono (unhide HB3).size))
    clear b4
    go_wp2
    go_ret
    exact ⟨rfl, unhide HB4⟩
  subst her
  have hok : checkP now ns = true ∧ ∃ n, In ns 34 n ∧ L = wkP ns ⟨u, g, mk, dr⟩ deep 34 0 s n := by
    rcases unhide HOK with h | h
    · exact absurd rfl h.1
    · exact h.2
  obtain ⟨hc, m, hin, hLe⟩ := hok
  have hlen := wk_len hc ⟨u, g, mk, dr⟩ deep (d := 0) (p := s) hin
  have HNo := hide (nest_all hc ⟨u, g, mk, dr⟩ deep s hin)
  have HIn := hide (fun q hq => wk_in (hung_check hc) ⟨u, g, mk, dr⟩ deep (d := 0) (p := s) hin q hq)
  obtain ⟨tl, htl⟩ := wk_first (ns := ns) ⟨u, g, mk, dr⟩ deep 33 0 s m
  rw [← hLe] at hlen HNo HIn htl
  have hL0 : 0 < L.length := by rw [htl]; simp
  have hLst : st L 0 = ⟨s, m, 0, false⟩ := by rw [htl]; rfl
  have HSt := hide hLst
  have hnl := (unhide HG).len
  clear hLe htl HOK hLst hin hc
  go_wp2_with fail
  go_loopw [6, 7, 8] (fun vo vs i wr => ∃ k : Nat, i = .int .i64 k ∧ Hid (Nt ns deep w3.heap.size w3 L k vo vs wr)) (fun _ _ i _ => L.length - (intOf i).toNat)
  case atStart => exact ⟨0, rfl, ⟨Nat.zero_le _, ⟨[], [], World.ownsRow_nil _ _ _ _, World.ownsRow_nil _ _ _ _, unhide HNo, Nat.le_refl _, Nat.le_refl _⟩, Below.refl _ _⟩⟩
  case round =>
    obtain ⟨k, rfl, hN⟩ := hrel
    obtain ⟨hk, ⟨o, seen, ho, hsn, hno, hol, hsl⟩, hbw⟩ := unhide hN
    clear hN
    obtain ⟨ao, co, rfl⟩ := row_form ho
    obtain ⟨ae, ce, rfl⟩ := row_form hsn
    have hxw := (hbw.block _ (Array.getElem?_eq_some_iff.1 (unhide HX3)).1).trans (unhide HX3)
    obtain ⟨c0, c1, c2, c3, c4, c5, c6, c7⟩ := unhide HLk wr hxw
    have hw3 : w.heap.size < w3.heap.size := (Array.getElem?_eq_some_iff.1 (unhide HX3)).1
    have hwr := hbw.size
    have hwl : w.heap.size < wr.heap.size := by omega
    have hBw := (unhide HB3).trans (hbw.mono (by omega))
    have hSw := (unhide HS).below hbw
    by_cases hlt : k < L.length
    · have hlt' : (k : Int) < (L.length : Int) := by omega
      rw [st_drop hlt] at hno
      obtain ⟨kn, hkn, hkp, hkl, hk0, hka, dn, hdn⟩ := unhide HIn _ (st_mem hlt)
      have h4 : ∃ b off, a1 = some ⟨b, off, none⟩ ∧ b < wr.heap.size ∧ E4 wr b (off + k * 4) (st L k) := by
        rcases hSw.cells with h0 | ⟨b, off, h1, h2, h3⟩
        · omega
        · exact ⟨b, off, h1, h2, h3 k hlt⟩
      obtain ⟨b, off, rfl, hbr, h4⟩ := h4
      generalize st L k = S0 at *
      obtain ⟨sp, sn, sd, sf⟩ := S0
      simp only at hkn hdn hka
      subst hkn hdn
      obtain ⟨q0, q1, q2, q3⟩ := h4
      simp only at q0 q1 q2 q3
      rcases ((unhide HG).below hBw).cells with h0 | ⟨tb, tof, rfl, htb, htc⟩
      · omega
      obtain ⟨_, _, _, _, h10, -, -⟩ := htc kn (by omega)
      have t0 := h10.c0
      have hkn' : (kn : Int) < (n : Int) := by omega
      have HK2 : Hid (((kn : Int).toNat = kn)) := by show _ = _; simp
      rw [nestOk] at hno
      simp only [Int.toNat_natCast] at hno
      have HO := hide ho
      have HSn := hide hsn
      have HBw := hide hbw
      have HFr := hide hBw
      have hNs : w3.heap.size ≤ wr.heap.size := hbw.size
      clear htc h10 hSw ho hsn hbw hBw hxw
      cases sf with
      | true =>
        have hkd := hka rfl
        rw [if_pos rfl] at hno
        obtain ⟨o', ⟨tp, tn, td, tf⟩, rfl, hkd2, e1, e2, e3, hno⟩ := hno
        simp only at e1 e2 e3
        subst e1 e2 e3
        rw [hkd] at t0
        have t0' : wr.cell? ⟨tb, tof + kn * 10, none⟩ = some (.int .u8 2) := t0
        have hg0 : ∃ go, ao = some ⟨go, 0, none⟩ := by
          rcases (unhide HO).2 with ⟨_, h0⟩ | ⟨g', cap', cur, hv, _⟩
          · simp at h0
          · simp at hv; exact ⟨g', hv.1⟩
        obtain ⟨go, rfl⟩ := hg0
        obtain ⟨m1, hm1⟩ : ∃ m1, m1 = o'.length := ⟨_, rfl⟩
        have hol' : (o' ++ [(⟨tp, kn, dn, tf⟩ : Sp)]).length = m1 + 1 := by rw [hm1]; simp
        have HO1 : Hid (wr.ownsRow w3.heap.size tyS 4 (.slice (some ⟨go, 0, none⟩) (m1 + 1) co) (m1 + 1) (stc o' ++ sc ⟨tp, kn, dn, tf⟩)) := by
          have := unhide HO
          rw [hol', stc_snoc] at this
          exact this
        have hgl1 := ((unhide HO1).lt go rfl).1
        have hgl2 := ((unhide HO1).lt go rfl).2
        have hcu : m1 + 1 ≤ co := by
          rcases (unhide HO1).2 with ⟨h0, _⟩ | ⟨_, _, _, hv, _, _, h, _⟩
          · simp at h0
          · simp at hv; rw [hv.2]; exact h
        have cell : ∀ j v, (sc ⟨tp, kn, dn, tf⟩)[j]? = some v → wr.cell? ⟨go, m1 * 4 + j, none⟩ = some v := fun j v hj => by
          have hj4 : j < 4 := by have := (List.getElem?_eq_some_iff.1 hj).1; simpa [sc] using this
          rw [(unhide HO1).cellAt (m1 * 4 + j) (by omega), List.getElem?_append_right (by rw [stc_len, hm1]; omega), stc_len, ← hm1, Nat.add_sub_cancel_left, hj]
        have x0 : wr.cell? ⟨go, m1 * 4, none⟩ = some (.string tp) := cell 0 _ rfl
        have x1 := cell 1 _ rfl
        have x2 := cell 2 _ rfl
        have x3 := cell 3 _ rfl
        rw [hol'] at hol ⊢
        have HNo' := hide hno
        have g1 : IntKind.i64.wrap (((m1 + 1 : Nat) : Int) - 1) = (m1 : Int) := by rw [IntWalk.i64_left]; unfold wrap64; omega
        have g2 : ((((m1 + 1 : Nat)) : Int) == 0) = false := by simp; omega
        have HM1 := hide hm1
        clear hno cell hol' HO hm1 hkd2 hkd t0
        go_wp2_with fail
        go_roundw
        case rel =>
          have hb2 : ∀ o1 o2 : Obj, Below wr.heap.size wr ((wr.alloc o1).alloc o2) := fun o1 o2 => ((Below.refl _ _).alloc (Nat.le_refl _) _).alloc (by simp) _
          refine ⟨k + 1, by go_num, ⟨by omega, ⟨o', seen, ?_, own_keep (unhide HSn) (fun j hj => (hb2 _ _).block j ((unhide HSn).lt j hj).2), unhide HNo', by have := unhide HM1; omega, by omega⟩, (unhide HBw).trans ((hb2 _ _).mono hNs)⟩⟩
          have h1 := row_cut (unhide HO1) (by rw [stc_len, unhide HM1])
          rw [← unhide HM1]
          exact own_keep h1 (fun j hj => (hb2 _ _).block j (h1.lt j hj).2)
        case measure => simp [intOf]; omega
      | false =>
        rw [if_neg (by simp)] at hno
        obtain ⟨hd1, hd2, hns, hno⟩ := hno
        obtain ⟨m1, hm1⟩ : ∃ m1, m1 = o.length := ⟨_, rfl⟩
        rw [← hm1] at hd1 hol HO ⊢
        obtain rfl : dn = m1 := by omega
        obtain ⟨ls, hls⟩ : ∃ ls, ls = seen.length := ⟨_, rfl⟩
        rw [← hls] at hsl HSn ⊢
        have HNo' := hide hno
        have HNs := hide hns
        have HM1 := hide hm1
        have HLS := hide hls
        have hmx : ¬ (max deep 0 < (dn : Int)) := by omega
        clear hno hns hd1 hm1 hls hd2
        obtain ⟨wo, rfl⟩ : ∃ wo, wr = wo := ⟨_, rfl⟩
        obtain ⟨X1, hX1⟩ : ∃ X1, X1 = wr.alloc (.cells #[.string sp, .int .i64 kn, .int .i64 dn, .bool false] tyS) := ⟨_, rfl⟩
        have hbX1 : Below wr.heap.size wr X1 := by rw [hX1]; exact (Below.refl _ _).alloc (Nat.le_refl _) _
        have hsX1 : X1.heap[wr.heap.size]? = some (.cells (sa ⟨sp, kn, dn, false⟩) tyS) := by rw [hX1]; exact heap_alloc_new _ _
        have HXO := hide (own_keep (unhide HO) (fun j hj => hbX1.block j ((unhide HO).lt j hj).2))
        have HXS := hide (own_keep (unhide HSn) (fun j hj => hbX1.block j ((unhide HSn).lt j hj).2))
        have HXB := hide ((unhide HBw).trans (hbX1.mono hNs))
        have HXX := hide hsX1
        have hxs : wr.heap.size < X1.heap.size := (Array.getElem?_eq_some_iff.1 hsX1).1
        obtain ⟨bd, hbd⟩ : ∃ bd, bd = (((nd ns kn).kind.toNat : Int) == 2) := ⟨_, rfl⟩
        have HBD := hide hbd
        clear hbX1 hsX1 HO HSn HBw
        go_upto_region 20 with fail
        go_wp2_with fail
        rw [← hX1, ← hbd]
        obtain ⟨wo, hwo⟩ : ∃ wo, wo = wr.heap.size := ⟨_, rfl⟩
        rw [← hwo] at HXX hxs ⊢
        replace hwo := hide hwo
        clear hX1 hbd q0 q1 q2 q3 t0 c0 c1 c2 c3 c4 c5 c6 c7 hmx htb hbr
        go_loopw [12] (fun i wx => ∃ k2 : Nat, k2 ≤ ls ∧ i = .int .i64 k2 ∧ Hid (Below X1.heap.size X1 wx)) (fun i _ => ls - (intOf i).toNat)
        case atStart => exact ⟨0, Nat.zero_le _, rfl, Below.refl _ _⟩
        case round =>
          obtain ⟨k2, hk2, rfl, hB⟩ := hrel
          have hB' := unhide hB
          have hsx := (hB'.block _ hxs).trans (unhide HXX)
          have hsx0 := hsx
          obtain ⟨s0, s1, s2, s3, -⟩ := step_look hsx
          simp only at s0 s1 s2 s3
          have hxz := hB'.size
          have HXOw := hide (own_keep (unhide HXO) (fun j hj => hB'.block j ((unhide HXO).lt j hj).2))
          have HXSw := hide (own_keep (unhide HXS) (fun j hj => hB'.block j ((unhide HXS).lt j hj).2))
          have hN1 := (unhide HXB).size
          have HXBw := hide ((unhide HXB).trans (hB'.mono hN1))
          clear hB' hsx
          by_cases hlt2 : k2 < ls
          · have hlt2' : (k2 : Int) < (ls : Int) := by omega
            obtain ⟨ge, rfl⟩ : ∃ ge, ae = some ⟨ge, 0, none⟩ := by
              rcases (unhide HXSw).2 with ⟨_, h0⟩ | ⟨g', cap', cur, hv, _⟩
              · omega
              · simp at hv; exact ⟨g', hv.1⟩
            have hgl := ((unhide HXSw).lt ge rfl).2
            have hks : k2 < seen.length := by rw [← unhide HLS]; exact hlt2
            obtain ⟨y, hy⟩ : ∃ y, y = seen[k2] := ⟨_, rfl⟩
            have x0 : wr.cell? ⟨ge, k2, none⟩ = some (.string y) := by
              have := (unhide HXSw).cellAt k2 (by omega)
              rw [this, List.getElem?_map, List.getElem?_eq_getElem hks, hy]; rfl
            have hne : (y.toList == sp.toList) = false := by
              rw [ByteArray.toList_eq, ByteArray.toList_eq, beq_eq_false_iff_ne]
              intro e
              refine unhide HNs ?_
              have e2 : y = sp := ba_ext e
              rw [← e2, hy]
              exact List.getElem_mem hks
            clear hy
            go_wp2_with fail
            go_quiet (fail)
            go_wp2_with fail
            go_roundw
            case rel => exact ⟨k2 + 1, by omega, by go_num, (unhide hB).trans ((below_drew _ _).mono (unhide hB).size)⟩
            case measure => simp [intOf]; omega
          · obtain rfl : k2 = ls := by omega
            have hN2 : w3.heap.size ≤ wr.heap.size := by omega
            have HSX := hide hsx0
            clear hB hxz s0 s1 s2 s3 hsx0
            have t0 : wr.cell? ⟨wo, 0, none⟩ = some (.string sp) := by rw [cell_of_row _ _ _ _ _ _ (unhide HSX)]; rfl
            have hlx : (seen ++ [sp]).length = k2 + 1 := by rw [List.length_append, ← unhide HLS]; rfl
            cases bd with
            | false =>
              have hk3 : (nd ns kn).kind ≠ 2 := fun e => by have := unhide HBD; rw [e] at this; exact absurd this (by decide)
              have HNe := unhide HNo'
              rw [if_neg hk3] at HNe
              go_wp2_with (first | (at_builtin; refine wpList_append_own _ rfl _ _ 32 rfl w3.heap.size 9 j0 _ 1 16 Try.underlying32 hj0 hy0 hy1 hy2 rfl (by decide) _ _ _ rfl ((unhide HXSw).alloc _) ⟨wr.heap.size, 0, none⟩ 1 1 [.string sp] rfl rfl (byte_new _ _ _) (by simp [Value.oneCell']) (by unfold maxLen; omega) (by omega) (by simp; omega) ?_; intro v' w9 hown9 hg9 hnil9; obtain ⟨g9, cap9, rfl⟩ := row_some hown9; have HO9 := hide (own_keep (unhide HXOw) (fun j hj => (grown_alloc hg9).block j ((unhide HXOw).lt j hj).2 (fun e => own_ne (unhide HXOw) (unhide HXSw) (by decide) j hj e.symm))); have HS9 := hide hown9; have hsx9 := ((grown_alloc hg9).block wo (Array.getElem?_eq_some_iff.1 (unhide HSX)).1 (fun e => own_box (unhide HXSw) (unhide HSX) (by decide) e.symm)).trans (unhide HSX); have HB9 := hide ((unhide HXBw).grown (grown_alloc hg9) hN2 (fun i hi => ((unhide HXSw).lt i hi).1)); have hs9 := (unhide HB9).size; obtain ⟨s0, s1, s2, s3, -⟩ := step_look hsx9; simp only at s0 s1 s2 s3; clear hown9 hg9 hnil9 hsx9))
              go_roundw
              case rel =>
                refine ⟨k + 1, by go_num, ⟨by omega, ⟨o, seen ++ [sp], ?_, ?_, HNe, by have := unhide HM1; omega, by omega⟩, unhide HB9⟩⟩
                · rw [← unhide HM1]; exact unhide HO9
                · rw [hlx, List.map_append]; exact unhide HS9
              case measure => simp [intOf]; omega
            | true =>
              have hk3 : (nd ns kn).kind = 2 := by
                have := (beq_iff_eq.1 (unhide HBD).symm)
                exact UInt8.toNat_inj.1 (by show _ = 2; omega)
              have HNe := unhide HNo'
              rw [if_pos hk3] at HNe
              go_wp2_with (first | (at_builtin; refine wpList_append_own _ rfl _ _ 32 rfl w3.heap.size 9 j0 _ 1 16 Try.underlying32 hj0 hy0 hy1 hy2 rfl (by decide) _ _ _ rfl ((unhide HXSw).alloc _) ⟨wr.heap.size, 0, none⟩ 1 1 [.string sp] rfl rfl (byte_new _ _ _) (by simp [Value.oneCell']) (by unfold maxLen; omega) (by omega) (by simp; omega) ?_; intro v' w9 hown9 hg9 hnil9; obtain ⟨g9, cap9, rfl⟩ := row_some hown9; have HO9 := hide (own_keep (unhide HXOw) (fun j hj => (grown_alloc hg9).block j ((unhide HXOw).lt j hj).2 (fun e => own_ne (unhide HXOw) (unhide HXSw) (by decide) j hj e.symm))); have HS9 := hide hown9; have hsx9 := ((grown_alloc hg9).block wo (Array.getElem?_eq_some_iff.1 (unhide HSX)).1 (fun e => own_box (unhide HXSw) (unhide HSX) (by decide) e.symm)).trans (unhide HSX); have HB9 := hide ((unhide HXBw).grown (grown_alloc hg9) hN2 (fun i hi => ((unhide HXSw).lt i hi).1)); have hs9 := (unhide HB9).size; obtain ⟨s0, s1, s2, s3, -⟩ := step_look hsx9; simp only at s0 s1 s2 s3; clear hown9 hg9 hnil9 hsx9) | (at_builtin; refine wpList_append_own _ rfl _ _ 31 rfl w3.heap.size tyS i0 _ 4 40 Try.underlying31 hi0 hz0 hz1 hz2 rfl (by decide) _ _ _ rfl ((unhide HO9).alloc _) ⟨w9.heap.size, 0, none⟩ 1 1 (sc ⟨sp, kn, dn, false⟩) rfl rfl (four_new _ _ _ _ _ _) (step_one _) (by unfold maxLen; omega) (by omega) (by simp; omega) ?_; intro v'' wA hownA hgA hnilA; obtain ⟨gA, capA, rfl⟩ := row_some hownA; have HSA := hide (own_keep (unhide HS9) (fun j hj => (grown_alloc hgA).block j ((unhide HS9).lt j hj).2 (fun e => own_ne (unhide HS9) (unhide HO9) (by decide) j hj e.symm))); have HOA := hide hownA; have HBA := hide ((unhide HB9).grown (grown_alloc hgA) hs9 (fun i hi => ((unhide HO9).lt i hi).1)); clear hownA hgA hnilA))
              go_roundw
              case rel =>
                have hlo : (o ++ [(⟨sp, kn, dn, false⟩ : Sp)]).length = dn + 1 := by rw [List.length_append, ← unhide HM1]; rfl
                refine ⟨k + 1, by go_num, ⟨by omega, ⟨o ++ [⟨sp, kn, dn, false⟩], seen ++ [sp], ?_, ?_, HNe, by omega, by omega⟩, unhide HBA⟩⟩
                · rw [hlo, stc_snoc]; exact unhide HOA
                · rw [hlx, List.map_append]; exact unhide HSA
              case measure => simp [intOf]; omega
    · obtain rfl : k = L.length := by omega
      rw [List.drop_length] at hno
      obtain rfl : o = [] := hno
      have hq4 : ∃ b off, a1 = some ⟨b, off, none⟩ ∧ b < wr.heap.size ∧ E4 wr b (off + 0 * 4) (st L 0) := by
        rcases hSw.cells with h0 | ⟨b, off, h1, h2, h3⟩
        · omega
        · exact ⟨b, off, h1, h2, h3 0 hL0⟩
      obtain ⟨b, off, rfl, hbr, q0, q1, q2, q3⟩ := hq4
      rw [unhide HSt, Nat.zero_mul, Nat.add_zero] at q0 q1 q2 q3
      simp only at q0 q1 q2 q3
      have hL1 : ((0 : Nat) : Int) < (L.length : Int) := by omega
      have hsame : (s.toList == s.toList) = true := by simp
      have hlo : decide ((0 : Int) < (L.length : Int)) = true := decide_eq_true (by omega)
      have HBwr := hide hBw
      have hSd : wr.drew.cell? ⟨w.heap.size, 6, none⟩ = some (.string s) ∧ wr.drew.cell? ⟨b, off, none⟩ = some (.string s) ∧ wr.drew.cell? ⟨b, off + 2, none⟩ = some (.int .i64 0) ∧ Hid (Below wr.heap.size wr wr.drew) := ⟨c6, q0, q2, (Below.refl _ _).drew⟩
      have keep : ∀ W W' : World, (W.cell? ⟨w.heap.size, 6, none⟩ = some (.string s) ∧ W.cell? ⟨b, off, none⟩ = some (.string s) ∧ W.cell? ⟨b, off + 2, none⟩ = some (.int .i64 0) ∧ Hid (Below wr.heap.size wr W)) → Below W.heap.size W W' → (W'.cell? ⟨w.heap.size, 6, none⟩ = some (.string s) ∧ W'.cell? ⟨b, off, none⟩ = some (.string s) ∧ W'.cell? ⟨b, off + 2, none⟩ = some (.int .i64 0) ∧ Hid (Below wr.heap.size wr W')) := fun W W' h hb => by
        have hz := (unhide h.2.2.2).size
        exact ⟨by rw [hb.cell (by show w.heap.size < _; omega)]; exact h.1, by rw [hb.cell (by show b < _; omega)]; exact h.2.1, by rw [hb.cell (by show b < _; omega)]; exact h.2.2.1, (unhide h.2.2.2).trans (hb.mono hz)⟩
      have HCL := hide (fun (W : World) (h : W.cell? ⟨w.heap.size, 6, none⟩ = some (.string s) ∧ W.cell? ⟨b, off, none⟩ = some (.string s) ∧ W.cell? ⟨b, off + 2, none⟩ = some (.int .i64 0) ∧ Hid (Below wr.heap.size wr W)) => (unhide HLv W).mono fun r W' hq => (⟨hq.1, keep W W' h hq.2⟩ : _ ∧ _))
      clear hlt ho hsn hSw hbw HNo HIn HSt HG HS keep hBw HLv c0 c1 c2 c3 c4 c5 c6 c7 q0 q1 q2 q3 hxw HLk HX3 hbr
      go_wp2_with fail
      go_region_held3 (fun w' => w'.cell? ⟨w.heap.size, 6, none⟩ = some (.string s) ∧ w'.cell? ⟨b, off, none⟩ = some (.string s) ∧ w'.cell? ⟨b, off + 2, none⟩ = some (.int .i64 0) ∧ Hid (Below wr.heap.size wr w')) (first | assumption | go_keep)
          (first | ((with_reducible refine (unhide HCL _ (by assumption)).mono ?_); rintro e w' ⟨rfl, hS1⟩) | fail)
      go_wp2_with fail
      go_ret
      exact ⟨by first | rfl | simp, (unhide HBwr).trans ((unhide hS1.2.2.2).mono (unhide HBwr).size)⟩
end Go.Proofs.Ytbajjbgeohbdjaa.Wk
