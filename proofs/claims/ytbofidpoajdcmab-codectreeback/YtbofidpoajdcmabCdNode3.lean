/- A reader of nodes: its part list. -/
import Derived.Test.YtbofidpoajdcmabCdNode2
import Derived.Deep.RegionLaw
namespace Go.Proofs.Ytbofidpoajdcmab.Cd
open Go.RowKit Cu Tr

theorem step_append_own {P : Program} {ops : Array Oper} {o : Oper} {a : Act} {w : World} {K : Act → World → Prop} {Q : Exit → Act → World → Prop} {E : Prop} (hgd : o.guard = none) (s x : Operand) (t : TypeId)
    (ho : o.op = .call { callee := .builtin .append, args := #[s, x], argTypes := #[t, t] })
    (base : Nat) (e : TypeId) (i : TypeInfo) (z : Value) (size bytes : Nat) (ht : P.underlying t = some (.slice e)) (hi : P.info? e = some i) (hz : i.zero = some z)
    (hsize : i.size = size) (hby : i.bytes = bytes) (hzs : z.cells.size = size) (hsz : 0 < size)
    (v : Value) (n : Nat) (xs : List Value) (hs : a.eval s = v) (hown : w.ownsRow base e size v n xs)
    (ad : Addr) (m c : Nat) (news : List Value) (hx : a.eval x = .slice (some ad) m c) (hl : news.length = m * size) (hnews : ∀ j u, news[j]? = some u → w.cell? (ad.add j) = some u) (h1 : ∀ u ∈ news, u.oneCell' = true)
    (h63 : n + m ≤ maxLen) (hbytes : (n + m) * bytes ≤ 140737488355328) (hbase : base ≤ w.heap.size)
    (h : ∀ v' w', w'.ownsRow base e size v' (n + m) (xs ++ news) → w.grownBy w' v.ownBlock → K (a.put o.dst v') w') :
    if Region.wanted o (yielded ops a.tmps) = true then Oper.wp P o a w K Q else E := by
  have hw : Region.wanted o (yielded ops a.tmps) = true := by simp [Region.wanted, hgd]
  rw [if_pos hw]
  exact wp_append_own w s x t ho base e i z size bytes ht hi hz hsize hby hzs hsz v n xs hs hown ad m c news hx hl hnews h1 h63 hbytes hbase fun v' w' h2 h3 _ => h v' w' h2 h3
def gL : Nat → RestN
  | 0 => n6
  | k + 1 => fun n r => (entP r).bind fun p => gL k { n with list := n.list ++ [p.1] } p.2
theorem gL_eq : ∀ (k : Nat) (n : Nd) (r : Bs), gL k n r = (manyP entP k r).bind fun p => n6 { n with list := n.list ++ p.1 } p.2
  | 0, n, r => by simp [gL, manyP]
  | k + 1, n, r => by
    simp only [gL, manyP]
    cases entP r with
    | none => rfl
    | some p =>
      simp only [Option.bind_some]
      rw [gL_eq k]
      cases manyP entP k p.2 with
      | none => rfl
      | some q => simp
theorem n5_eq (n : Nd) (r : Bs) : n5 n r = (lenP 512 r).bind fun p => gL p.1 n p.2 := by
  unfold n5
  cases lenP 512 r with
  | none => rfl
  | some p => simp only [Option.bind_some]; rw [gL_eq]
/-- one name more -/
def gE (k : Nat) (e : En) : RestN := fun n r => gL k { n with list := n.list ++ [e] } r
theorem Fr.then_below {S : List Addr} {w w1 w2 : World} (h : Fr S w w1) (hb : Below w.heap.size w1 w2) : Fr S w w2 :=
  ⟨hb.os.trans h.os, hb.tape.trans h.tape, hb.output.trans h.output, Nat.le_trans h.size hb.size, fun k hk hn => (hb.block k hk).trans (h.block k hk hn),
    fun p hp hn => (World.cell?_of_block (hb.block _ hp)).trans (h.cell p hp hn), fun p hp => (World.frozen?_of_block (hb.block _ hp)).trans (h.frozen p hp)⟩
theorem Rd.bel {w w' : World} {K rb B : Nat} {l : Bs} (h : Rd w K rb l) (hb : Below B w w') (hB : rb < B) : Rd w' K rb l := by
  obtain ⟨⟨a, n, cap, h1, h2, h3⟩, h4, h5, h6, h7⟩ := h
  exact ⟨⟨a, n, cap, (World.cell?_of_block (hb.block _ hB)).trans h1, By.low h2 h3 (hb.mono (by omega)), h3⟩, (World.frozen?_of_block (hb.block _ hB)).trans h4, Nat.lt_of_lt_of_le h5 hb.size, h6, h7⟩
theorem ent_one (s : ByteArray) (z : Int) : ∀ u ∈ [Value.string s, Value.int .i64 z], u.oneCell' = true := by
  intro u hu; simp at hu; rcases hu with rfl | rfl <;> rfl
theorem pair_new (w : World) (x y : Value) (e : TypeId) : ∀ j u, [x, y][j]? = some u → (w.alloc (.cells #[x, y] e)).cell? ((⟨w.heap.size, 0, none⟩ : Addr).add j) = some u := by
  intro j u hj
  match j, hj with
  | 0, hj => simp at hj; subst hj; simp [Addr.add]
  | 1, hj => simp at hj; subst hj; simp [Addr.add]
theorem Jn.wid {B B' : Nat} {ws : World} {K rb nb fb : Nat} {l : Bs} {g : RestN} {w : World} (h : Jn B ws K rb nb fb l g w) (hb : B ≤ B') : Jn B' ws K rb nb fb l g w := by
  obtain ⟨n, r, d, e, hR, hC, hD, hE, hg, hbl⟩ := h.ex
  exact ⟨h.fr, h.fns, h.new, h.ptr, n, r, d, e, hR, hC, hD, hE, hg, Nat.le_trans hbl hb⟩
/-- a name more in the list of a node -/
theorem app_end {B : Nat} {ws : World} {K rb nb fb : Nat} {l : Bs} {k : Nat} {x : En} {w w5 : World} {O : Obj} {n : Nd} {r : Bs} {d e v1 : Value} (h : Jn B ws K rb nb fb l (gE k x) w)
    (hR : Rd w K rb r) (hC : C10 w nb n d e) (hD : Row (nb + 1) d n.data w) (hE : RowE (nb + 1) e n.list w) (hg : nodeP l = gE k x n r) (hbl : n.list.length ≤ B)
    (hO : w5.ownsRow (nb + 1) 88 2 v1 (n.list.length + 1) (entCells n.list ++ [.string x.name, .int .i64 x.node])) (hG : (w.alloc O).grownBy w5 e.ownBlock) :
    (∃ a c, v1 = .slice a (n.list.length + 1) c) ∧ w5.cell? ⟨nb, 9, none⟩ = some e ∧ w5.frozen? ⟨nb, 9, none⟩ = false ∧ Jn (B + 1) ws K rb nb fb l (gL k) (w5.setCell ⟨nb, 9, none⟩ v1) := by
  obtain ⟨q1, q2, q3, q4⟩ := h.new
  have hA := below_new w O
  have he := own_at9 hE
  have keep : ∀ b, b < w.heap.size → some b ≠ e.ownBlock → w5.heap[b]? = w.heap[b]? := fun b hb hn => (hG.block b (Nat.lt_of_lt_of_le hb hA.size) hn).trans (hA.block b hb)
  have hnbe : some nb ≠ e.ownBlock := fun q => by have := he nb q.symm; omega
  have hfbe : some fb ≠ e.ownBlock := fun q => by
    obtain ⟨cur, hc⟩ := own_ty9 hE q.symm
    have := h.fns
    unfold Fns at this
    rw [this] at hc
    injection hc with hc
    injection hc with _ hc _
    exact absurd hc (by decide)
  have hfl := (Array.getElem?_eq_some_iff.1 h.fns).1
  have k5 := keep nb hC.lt hnbe
  have F5 := Fr.set w5 ⟨nb, 9, none⟩ v1
  have hb5 : Below ws.heap.size w w5 := ⟨hG.os.trans hA.os, hG.tape.trans hA.tape, hG.output.trans hA.output, Nat.le_trans hA.size hG.size, fun b hb => keep b (by have := hC.lt; omega) (fun q => by have := he b q.symm; omega)⟩
  have hb6 : Below ws.heap.size w (w5.setCell ⟨nb, 9, none⟩ v1) := hb5.setCell (p := ⟨nb, 9, none⟩) q1 _
  have hC5 : ∀ i, w5.cell? ⟨nb, i, none⟩ = w.cell? ⟨nb, i, none⟩ := fun i => World.cell?_of_block k5
  have hlt5 : nb < w5.heap.size := Nat.lt_of_lt_of_le hC.lt (Nat.le_trans hA.size hG.size)
  have hc9 : w5.cell? ⟨nb, 9, none⟩ = some e := (hC5 9).trans (hC.cells 8 e rfl)
  refine ⟨own_slice9 hO, hc9, (World.frozen?_of_block k5).trans (hC.fz 9), h.fr.then_below hb6, ?_, h.new, ?_, { n with list := n.list ++ [x] }, r, d, v1, hR.bel hb6 q4, ?_, ?_, ?_, ?_, ?_⟩
  · exact (F5.block fb (Nat.lt_of_lt_of_le hfl (Nat.le_trans hA.size hG.size)) (by simp; omega)).trans ((keep fb hfl hfbe).trans h.fns)
  · exact (F5.cell _ hlt5 (by simp)).trans ((hC5 0).trans h.ptr)
  · refine ⟨?_, fun i => (F5.frozen _ hlt5).trans ((World.frozen?_of_block k5).trans (hC.fz i)), Nat.lt_of_lt_of_le hlt5 F5.size⟩
    intro i v hv
    by_cases hi : i = 8
    · subst hi
      simp at hv
      subst hv
      exact World.cell?_setCell_same _ _ _ hc9
    · refine (F5.cell _ hlt5 (fun q => by injection (List.mem_singleton.1 q) with _ q2 _; omega)).trans ((hC5 _).trans (hC.cells i v ?_))
      rw [← hv]
      have hi10 : i < 10 := by
        have := (Array.getElem?_eq_some_iff.1 hv).1
        simpa using this
      refine ten (P := fun i => i ≠ 8 → (nA n d e)[i]? = (nA { n with list := n.list ++ [x] } d v1)[i]?) ?_ ?_ ?_ ?_ ?_ ?_ ?_ ?_ ?_ ?_ i hi10 hi
      all_goals first | (intro _; rfl) | (intro q; exact absurd rfl q)
  · refine own_fr9 (own_keep9 hD (fun b hb => keep b (own_at9 hD b hb).2 (fun q => ?_))) F5 (fun b hb p hp => ?_)
    · obtain ⟨c1, e1⟩ := own_ty9 hD hb
      obtain ⟨c2, e2⟩ := own_ty9 hE q.symm
      rw [e1] at e2
      injection e2 with e2
      injection e2 with _ e2 _
      exact absurd e2 (by decide)
    · simp at hp
      subst hp
      have := (own_at9 hD b hb).1
      show nb ≠ b
      omega
  · have hO2 : RowE (nb + 1) v1 (n.list ++ [x]) w5 := by
      show w5.ownsRow _ _ _ _ _ _
      rw [List.length_append, entCells_snoc]
      exact hO
    refine own_fr9 hO2 F5 (fun b hb p hp => ?_)
    simp at hp
    subst hp
    have := (own_at9 hO2 b hb).1
    show nb ≠ b
    omega
  · rw [hg]; rfl
  · simp; omega
theorem zs_one {zs : List Int} (h : zs.length = 1) : zs = [zs.getD 0 0] := by
  match zs, h with
  | [a], _ => rfl
theorem frozen_of {w : World} {b : Nat} {c : Array Value} {e : TypeId} (h : w.heap[b]? = some (.cells c e (0, 0))) (i : Nat) : w.frozen? ⟨b, i, none⟩ = false := by simp [World.frozen?, h]
set_option maxHeartbeats 4000000 in
set_option maxRecDepth 100000 in
theorem nlist_any (ws : World) (K rb nb fb : Nat) (l : Bs) (w : World) (h : Jn 0 ws K rb nb fb l n5 w) : Calls Try.prog 58 #[rp nb] w (PartN 512 ws K rb nb fb l n6) := by
  obtain ⟨i0, hi0, hz0, hz1, hz2⟩ := info_parts infoEnt
  obtain ⟨n, r, d, e, hR, hC, hD, hE, hg, hbl⟩ := h.ex
  have hN := hide (rlength_any K rb 512 r w hR (by omega))
  unfold LenR at hN
  have hp0 := h.ptr
  have hne := h.lts.2.2
  have HJ := hide h
  have HC := hide hC
  have HD := hide hD
  have HE := hide hE
  have HNE := hide hne
  cases hp : lenP 512 r with
  | none =>
    rw [hp] at hN
    have hbad : Hid (nodeP l = none) := hide (by rw [hg, n5_eq, hp]; rfl)
    clear h hR hC hD hE hg hne
    go_enter Try.func58, Try.ntmps58
    go_wp2_with fail
    refine (unhide hN).mono ?_
    rintro e w1 ⟨hF, rfl⟩
    have F2 := hide (hF.mono (S' := [⟨rb, 0, none⟩, ⟨nb, 8 + 1, none⟩]) (by simp))
    clear hN hF hp0
    go_wp2_with fail
    go_loopw [15] (fun v wr => v = .int .i64 0 ∧ wr = w1) (fun _ _ => 0)
    case atStart => exact ⟨rfl, rfl⟩
    case round =>
      obtain ⟨rfl, rfl⟩ := hrel
      go_wp2_with fail
      go_ret
      exact .inr ⟨rfl, (unhide HJ).bad (unhide F2) (pls2 rb nb 8) (unhide hbad)⟩
  | some p =>
    obtain ⟨m, r1⟩ := p
    have hm := lenP_le hp
    rw [hp] at hN
    have hg2 : Hid (nodeP l = gL m n r1) := hide (by rw [hg, n5_eq, hp]; rfl)
    clear h hR hC hD hE hg hne
    go_enter Try.func58, Try.ntmps58
    go_wp2_with fail
    refine (unhide hN).mono ?_
    rintro e9 w1 ⟨hF, rfl, hR1⟩
    have F2 := hF.mono (S' := [⟨rb, 0, none⟩, ⟨nb, 8 + 1, none⟩]) (by simp)
    have hne := unhide HNE
    have J1 : Hid (Jn 0 ws K rb nb fb l (gL m) w1) := (unhide HJ).next (n' := n) F2 (pls2 rb nb 8) hR1 ((unhide HC).upd (fun _ => false) hF (fun i _ _ => ⟨fun q => by injection (List.mem_singleton.1 q) with q1 _ _; exact hne q1.symm, rfl⟩) (fun _ _ _ h => by cases h)) (rowN_same (unhide HD) F2 (pls2 rb nb 8) (unhide HJ).rlt) (rowE_same (unhide HE) F2 (pls2 rb nb 8) (unhide HJ).rlt) (unhide hg2) hbl
    clear hN hF hp0 F2 hR1 HJ HC HD HE hg2 hne
    go_wp2_with fail
    go_loopw [15] (fun v wr => ∃ i : Nat, i ≤ m ∧ v = .int .i64 i ∧ Hid (Jn i ws K rb nb fb l (gL (m - i)) wr)) (fun v _ => m - (intOf v).toNat)
    case atStart => exact ⟨0, Nat.zero_le _, rfl, J1⟩
    case round =>
      clear J1
      obtain ⟨i, hi, rfl, hJ⟩ := hrel
      by_cases hlt : i < m
      · have hlt' : (i : Int) < (m : Int) := by omega
        obtain ⟨j, hj⟩ : ∃ j, m - i = j + 1 := ⟨m - i - 1, by omega⟩
        have hj2 : Hid (m - (i + 1) = j) := hide (by omega)
        rw [hj] at hJ
        clear hj
        obtain ⟨n, r, d, e, hR, hC, hD, hE, hg, hbl⟩ := (unhide hJ).ex
        have hp0 := (unhide hJ).ptr
        have hnl := hC.lt
        obtain ⟨O, hO⟩ : ∃ O : Obj, O = .cells #[.string ⟨#[]⟩, .int .i64 0] 88 := ⟨_, rfl⟩
        have bO := below_new wr O
        have FO : Fr [] wr (wr.alloc O) := Fr.of_below bO
        have hRO := hR.fr FO (by simp) (by simp)
        have eO : (wr.alloc O).heap[wr.heap.size]? = some (.cells #[.string ⟨#[]⟩, .int .i64 0] 88 (0, 0)) := by rw [← hO]; exact heap_alloc_new wr O
        have lO : wr.heap.size < (wr.alloc O).heap.size := by simp
        have hrs := hRO.lo
        have tg0 : Tg (wr.alloc O) K rb ⟨wr.heap.size, 0, none⟩ (.string ⟨#[]⟩) := ⟨by rw [cell_of_row _ _ _ _ _ _ eO]; rfl, frozen_of eO _, by have := hR.lt; show K ≤ wr.heap.size; omega, lO, by intro q; injection q with q; have := hR.lt; omega⟩
        have tg1 : Tg (wr.alloc O) K rb ⟨wr.heap.size, 1, none⟩ (.int .i64 0) := ⟨by rw [cell_of_row _ _ _ _ _ _ eO]; rfl, frozen_of eO _, by have := hR.lt; show K ≤ wr.heap.size; omega, lO, by intro q; injection q with q; have := hR.lt; omega⟩
        have hp1 : (wr.alloc O).cell? ⟨nb, 0, none⟩ = some (rp rb) := (bO.cell (p := ⟨nb, 0, none⟩) hnl).trans hp0
        have TX := hide (textInto_any K rb wr.heap.size 0 ⟨#[]⟩ r (wr.alloc O) hRO tg0)
        unfold TInR at TX
        have TG1 := hide tg1
        have HFO := hide FO
        have HP0 := hide hp0
        have HR := hide hR
        have HC := hide hC
        have HD := hide hD
        have HE := hide hE
        have HG := hide hg
        have hrb : rb < wr.heap.size := hR.lt
        have HNN := hide (unhide hJ).lts.2.2
        clear hR hC hD hE hg FO hRO tg0 tg1 hrs eO hp0 bO
        subst hO
        cases ht : txtP r with
        | none =>
          rw [ht] at TX
          have hbad : Hid (nodeP l = none) := hide (by rw [unhide HG]; show (entP r).bind _ = none; rw [entP, ht]; rfl)
          go_wp2_with fail
          refine (unhide TX).mono ?_
          rintro e9 w2 ⟨hF, rfl⟩
          have FF : Hid (Fr [⟨rb, 0, none⟩] wr w2) := ((unhide HFO).mono (by simp)).off hF (fun p hp => by
            simp at hp
            rcases hp with rfl | rfl
            · exact .inl (by simp)
            · exact .inr (Nat.le_refl _))
          clear TX hF hp1
          go_wp2_with fail
          go_ret
          exact .inr ⟨rfl, (unhide hJ).bad (unhide FF) (by intro p hp; simp at hp; exact .inl hp) (unhide hbad)⟩
        | some q =>
          obtain ⟨x, r2⟩ := q
          rw [ht] at TX
          go_wp2_with fail
          refine (unhide TX).mono ?_
          rintro e9 w2 ⟨hF, rfl, hR2, hx⟩
          have hp2 : w2.cell? ⟨nb, 0, none⟩ = some (rp rb) := (hF.cell ⟨nb, 0, none⟩ (Nat.lt_trans hnl lO) (fun e => by
            simp only [List.mem_cons, List.not_mem_nil, or_false] at e
            rcases e with e | e
            · injection e with e; exact (unhide HNN) e.symm
            · injection e with e; omega)).trans hp1
          have tg2 := (unhide TG1).fr hF (by simp)
          have F02 : Fr [⟨rb, 0, none⟩] wr w2 := ((unhide HFO).mono (by simp)).off hF (fun p hp => by
            simp at hp
            rcases hp with rfl | rfl
            · exact .inl (by simp)
            · exact .inr (Nat.le_refl _))
          obtain ⟨Q, hQ⟩ : ∃ Q : Obj, Q = .cells #[.pointer (some ⟨wr.heap.size, 1, none⟩)] 93 := ⟨_, rfl⟩
          have FQ : Fr [] w2 (w2.alloc Q) := Fr.of_below (below_new w2 Q)
          have l2 : wr.heap.size < w2.heap.size := tg2.lt
          have TN := hide (numbersInto_any K rb w2.heap.size 1 [(⟨wr.heap.size, 1, none⟩ : Addr)] r2 (w2.alloc Q) (hR2.fr FQ (by simp) (by simp)) ⟨by simp, (by intro t ht; simp at ht; subst ht; exact ⟨_, tg2.fr FQ (by simp)⟩), (by intro t ht; simp at ht; subst ht; exact Nat.ne_of_lt l2), by simp⟩ (by rw [hQ]; exact heap_alloc_new w2 _) (by have := hR2.lt; omega) rfl (by omega))
          unfold NInR at TN
          have hx2 : (w2.alloc Q).cell? ⟨wr.heap.size, 0, none⟩ = some (.string (ba x)) := (FQ.cell ⟨wr.heap.size, 0, none⟩ l2 (by simp)).trans hx
          have HX2 := hide hx2
          have HF02 := hide F02
          have HFQ := hide FQ
          have HP2 := hide hp2
          subst hQ
          clear TX hF hR2 hx hp1 TG1 tg2 F02 FQ hx2
          cases hy : intsP 1 r2 with
          | none =>
            rw [hy] at TN
            have hbad : Hid (nodeP l = none) := hide (by rw [unhide HG]; show (entP r).bind _ = none; rw [entP, ht]; simp [hy])
            go_wp2_with fail
            refine (unhide TN).mono ?_
            rintro e9 w3 ⟨hF, rfl⟩
            have FF : Hid (Fr [⟨rb, 0, none⟩] wr w3) := ((unhide HF02).off (unhide HFQ) (by simp)).off hF (fun p hp => by
              simp at hp
              rcases hp with rfl | rfl
              · exact .inl (by simp)
              · exact .inr (Nat.le_refl _))
            clear TN hF hp2
            go_wp2_with fail
            go_ret
            exact .inr ⟨rfl, (unhide hJ).bad (unhide FF) (by intro p hp; simp at hp; exact .inl hp) (unhide hbad)⟩
          | some q =>
            obtain ⟨zs, r3⟩ := q
            have hzl := intsP_len hy
            obtain ⟨z, rfl⟩ : ∃ z, zs = [z] := ⟨zs.getD 0 0, zs_one hzl⟩
            rw [hy] at TN
            have hg3 : Hid (nodeP l = gE j ⟨ba x, z⟩ n r3) := hide (by rw [unhide HG]; show (entP r).bind _ = _; rw [entP, ht]; simp [hy, gE])
            go_wp2_with fail
            refine (unhide TN).mono ?_
            rintro e9 w3 ⟨hF, rfl, hR3, hz⟩
            have c1 : w3.cell? ⟨wr.heap.size, 1, none⟩ = some (.int .i64 z) := hz 0 _ z rfl rfl
            have c0 : w3.cell? ⟨wr.heap.size, 0, none⟩ = some (.string (ba x)) := (hF.cell ⟨wr.heap.size, 0, none⟩ (Nat.lt_of_lt_of_le l2 (unhide HFQ).size) (by simp)).trans (unhide HX2)
            have FF : Fr [⟨rb, 0, none⟩] wr w3 := ((unhide HF02).off (unhide HFQ) (by simp)).off hF (fun p hp => by
              simp at hp
              rcases hp with rfl | rfl
              · exact .inl (by simp)
              · exact .inr (Nat.le_refl _))
            have hps : Pls rb nb [⟨rb, 0, none⟩] := by intro p hp; simp at hp; exact .inl hp
            have hC3 := (unhide HC).upd (fun _ => false) FF (fun i _ _ => ⟨fun q => by injection (List.mem_singleton.1 q) with q1 _ _; exact (unhide HNN) q1.symm, rfl⟩) (fun _ _ _ h => by cases h)
            have hD3 := rowN_same (unhide HD) FF hps (unhide hJ).rlt
            have hE3 := rowE_same (unhide HE) FF hps (unhide hJ).rlt
            have J3 : Jn i ws K rb nb fb l (gE j ⟨ba x, z⟩) w3 := (unhide hJ).next (n' := n) FF hps hR3 hC3 hD3 hE3 (unhide hg3) hbl
            have J4 := hide J3.drew
            have hE4 : Hid (RowE (nb + 1) e n.list w3.drew) := rowE_same (rb := rb) hE3 ((Fr.refl [] w3).drew 1) (by intro p hp; simp at hp) (unhide hJ).rlt
            have hD4 : Hid (Row (nb + 1) d n.data w3.drew) := rowN_same (rb := rb) hD3 ((Fr.refl [] w3).drew 1) (by intro p hp; simp at hp) (unhide hJ).rlt
            have hC4 : Hid (C10 w3.drew nb n d e) := hC3.upd (fun _ => false) ((Fr.refl [] w3).drew 1) (fun i _ _ => ⟨by simp, rfl⟩) (fun _ _ _ h => by cases h)
            have hR4 : Hid (Rd w3.drew K rb r3) := hR3.fr ((Fr.refl [] w3).drew 1) (by simp) (by simp)
            have k9 : w3.cell? ⟨nb, 9, none⟩ = some e := hC3.cells 8 e rfl
            have l3 : wr.heap.size < w3.heap.size := Nat.lt_of_lt_of_le (Nat.lt_of_lt_of_le l2 (unhide HFQ).size) hF.size
            have nl3 : nb < w3.heap.size := hC3.lt
            obtain ⟨ea, ec, rfl⟩ := own_slice9 hE3
            obtain ⟨N, hN⟩ : ∃ N, n.list.length = N := ⟨_, rfl⟩
            have HA : Hid (∀ v1 w5, w5.ownsRow (nb + 1) 88 2 v1 (N + 1) (entCells n.list ++ [.string (ba x), .int .i64 z]) → (w3.drew.alloc (.cells #[.string (ba x), .int .i64 z] 88)).grownBy w5 (Value.slice ea N ec).ownBlock → (∃ a c, v1 = .slice a (N + 1) c) ∧ w5.cell? ⟨nb, 9, none⟩ = some (.slice ea N ec) ∧ w5.frozen? ⟨nb, 9, none⟩ = false ∧ Jn (i + 1) ws K rb nb fb l (gL j) (w5.setCell ⟨nb, 9, none⟩ v1)) := fun v1 w5 hO hG => by
              subst hN
              exact app_end (unhide J4) (unhide hR4) (unhide hC4) (unhide hD4) (unhide hE4) (unhide hg3) hbl hO hG
            have HE4 : Hid (w3.drew.ownsRow (nb + 1) 88 2 (.slice ea N ec) N (entCells n.list)) := by
              subst hN
              exact unhide hE4
            rw [hN] at k9 hbl
            clear hC3 hD3 hE3 J3 J4 hE4 hD4 hC4 hR4 hR3 hz hF FF hps HP0 HR HC HD HE HG HX2 HF02 HFQ HP2 TN hg3 hN hp2 HFO
            go_wp2_with fail
            go_region_law (refine step_append_own rfl (.tmp 39) (.tmp 41) 68 rfl (nb + 1) 88 i0 _ 2 24 Try.underlying68 hi0 hz0 hz1 hz2 rfl (by decide) (.slice ea N ec) N (entCells n.list) (by simp [Act.eval]) (by exact ((unhide HE4).alloc _)) ⟨w3.heap.size, 0, none⟩ 1 1 [.string (ba x), .int .i64 z] (by simp [Act.eval]) rfl (by exact pair_new w3.drew _ _ _) (ent_one _ _) (by unfold maxLen; omega) (by omega) (by simp; omega) ?_; intro v1 w5 hO5 hG5; obtain ⟨⟨va, vc, rfl⟩, hc5, hf5, hJ5⟩ := unhide HA v1 w5 hO5 (by exact hG5); have J5 := hide hJ5; clear hO5 hG5 hJ5)
            all_goals
              clear HA HE4
              go_wp2_with fail
              go_roundw
              case rel => exact ⟨i + 1, by omega, by go_num, by rw [unhide hj2]; exact J5⟩
              case measure => simp [intOf]; omega
      · obtain rfl : i = m := by omega
        rw [Nat.sub_self] at hJ
        go_wp2_with fail
        go_ret
        exact .inl ⟨rfl, (unhide hJ).wid (by omega)⟩
end Go.Proofs.Ytbofidpoajdcmab.Cd
