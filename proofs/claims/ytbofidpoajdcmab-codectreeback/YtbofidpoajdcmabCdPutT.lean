/- A teller of trees; what PutTree answers. -/
import Derived.Test.YtbofidpoajdcmabCdTellT
namespace Go.Proofs.Ytbofidpoajdcmab.Cd
open Go.RowKit Cu Tr

theorem Ng.in {w : World} {a : Option Addr} {n cap : Nat} {ns : List Nd} (h : Ng w a n cap ns) (h0 : 0 < n) : ∀ ad, a = some ad → ad.block < w.heap.size := by
  intro ad e
  rcases h.cells with h | ⟨b, off, e2, hlt, hc⟩
  · omega
  · rw [e] at e2; injection e2 with e2; subst e2; exact hlt
theorem Eg.in {w : World} {a : Option Addr} {n cap : Nat} {es : List En} (h : Eg w a n cap es) (h0 : 0 < n) : ∀ ad, a = some ad → ad.block < w.heap.size := by
  intro ad e
  rcases h.cells with h | ⟨b, off, e2, hlt, hc⟩
  · omega
  · rw [e] at e2; injection e2 with e2; subst e2; exact hlt
theorem tree_cat {out x : Bs} {now : Int} {ns : List Nd} (h : x = out ++ numsB [now] ++ lenB ns.length ++ nodesB ns) : x = out ++ treeB now ns := by rw [h, treeB]; simp only [List.append_assoc]
set_option maxHeartbeats 4000000 in
set_option maxRecDepth 100000 in
/-- what came in lies in w0, below the box g -/
theorem ttree_any (now : Int) (ns : List Nd) (a : Option Addr) (cap : Nat) (w0 : World) (g : Nat) (o : Option Nat) (out : Bs) (w : World) (hT : Tl w g o out) (hN : Ng w0 a ns.length cap ns) (hg : w0.heap.size ≤ g) (hb : Below w0.heap.size w0 w) (hm : mayTree ns = true) (hl : out.length ≤ 1000000) :
    Calls Try.prog 17 #[tv g, .agg #[.slice a ns.length cap, .int .i64 now]] w fun e w' => e = .returned (.tuple #[]) ∧ ∃ o', Tl w' g o' (out ++ treeB now ns) ∧ Tk w w' g o o' := by
  obtain ⟨m1, m2⟩ := mayTree_all hm
  have T0 := hide (hT.below (below_new w (.cells #[.slice a ns.length cap, .int .i64 now] 24)))
  have O0 := hide (off_new hT 0)
  have B0 := hide ((below_new w (.cells #[.slice a ns.length cap, .int .i64 now] 24)))
  have X0 : Hid ((w.alloc (.cells #[.slice a ns.length cap, .int .i64 now] 24)).heap[w.heap.size]? = some (.cells #[.slice a ns.length cap, .int .i64 now] 24)) := heap_alloc_new w _
  have HT := hide hT
  have HN := hide hN
  have HM := hide hm
  have HG := hide hg
  have HB := hide hb
  clear hT hN hm hg hb
  have T1 := hide (numbers_any (w.heap.size + 1) 1 [now] g o out _ ((unhide T0).below (below_new (w.alloc (.cells #[.slice a ns.length cap, .int .i64 now] 24)) (.cells #[.int .i64 now] 3))) (by have := nums1 (w.alloc (.cells #[.slice a ns.length cap, .int .i64 now] 24)) now; rw [World.size_alloc] at this; exact this) rfl (by omega) (by have := off_new (unhide T0) 0; rw [World.size_alloc] at this; exact this) (by omega))
  go_enter Try.func17, Try.ntmps17
  go_wp2_with fail
  refine (unhide T1).mono ?_
  rintro e w1 ⟨rfl, o1, h1, h2⟩
  have K1 := (Tk.of_below (g := g) (o := o) ((unhide B0).trans ((below_new (w.alloc (.cells #[.slice a ns.length cap, .int .i64 now] 24)) (.cells #[.int .i64 now] 3)).mono (by simp)))).trans h2
  have X1 := (h2.block w.heap.size (by simp; omega) (unhide O0 _ rfl).1 (unhide O0 _ rfl).2).trans ((((below_new (w.alloc (.cells #[.slice a ns.length cap, .int .i64 now] 24)) (.cells #[.int .i64 now] 3))).block _ (by simp)).trans (unhide X0))
  have O1 := hide ((unhide O0).tk h2 (fun ad e => by injection e with e; subst e; simp; omega))
  have k1 : w1.cell? ⟨w.heap.size, 0, none⟩ = some (.slice a ns.length cap) := by rw [cell_of_row _ _ _ _ _ _ X1]; rfl
  have T2 := hide (length_any ns.length g o1 _ w1 h1 (by omega) (by simp [numsB_len]; omega))
  have HK1 := hide K1
  have HX1 := hide X1
  clear T1 h1 h2 T0 O0 B0 X0 K1 X1
  go_wp2_with fail
  refine (unhide T2).mono ?_
  rintro e w2 ⟨rfl, o2, h1, h2⟩
  have K2 := hide ((unhide HK1).trans h2)
  have X2 := (h2.block w.heap.size (Array.getElem?_eq_some_iff.1 (unhide HX1)).1 (unhide O1 _ rfl).1 (unhide O1 _ rfl).2).trans (unhide HX1)
  have k2 : w2.cell? ⟨w.heap.size, 0, none⟩ = some (.slice a ns.length cap) := by rw [cell_of_row _ _ _ _ _ _ X2]; rfl
  obtain ⟨cur0, hcur⟩ : ∃ c, c = out ++ numsB [now] ++ lenB ns.length := ⟨_, rfl⟩
  have hcl : Hid (cur0.length ≤ 1000020) := hide (by rw [hcur]; simp [numsB_len, lenB_len]; omega)
  rw [← hcur] at h1
  have H1 := hide h1
  have HC := hide hcur
  clear T2 h1 h2 HK1 HX1 X2 O1 k1 hcur
  go_wp2_with fail
  clear k2
  go_loopw [19] (fun v wr => ∃ k : Nat, k ≤ ns.length ∧ v = .int .i64 k ∧ ∃ o', Hid (Tl wr g o' (cur0 ++ nodesB (ns.take k))) ∧ Hid (Tk w wr g o o')) (fun v _ => ns.length - (intOf v).toNat)
  case atStart => exact ⟨0, Nat.zero_le _, rfl, o2, (by rw [List.take_zero]; show Tl _ _ _ (cur0 ++ []); rw [List.append_nil]; exact unhide H1), K2⟩
  case round =>
    clear H1 K2
    obtain ⟨k, hk, rfl, ok, hS, hK⟩ := hrel
    by_cases hlt : k < ns.length
    · have hlt' : (k : Int) < (ns.length : Int) := by omega
      have hb0 := (unhide HB).trans (((unhide hK).below (unhide HT)).mono (unhide HG))
      have hNr := (unhide HN).below hb0
      have hNs := unhide HN
      obtain ⟨b, off, rfl, hbl, hcs0⟩ : ∃ b off, a = some ⟨b, off, none⟩ ∧ b < w0.heap.size ∧ ∀ i, i < ns.length → Nx w0 b (off + i * 10) (nd ns i) := by
        rcases hNs.cells with h | h
        · omega
        · exact h
      obtain ⟨da, dc, la, lc, h10, hB, hL⟩ := hcs0 k hlt
      have hmx : mayNode (nd ns k) = true := m2 _ (by simp [nd, List.getD, List.getElem?_eq_getElem hlt])
      have hst := hide (nodes_take ns k hlt)
      have hle := nodes_take_le (unhide HM) k
      have h10r := h10.of fun o => hb0.cell (p := ⟨b, o, none⟩) hbl
      have hBi := By.in hB
      have hLi := Eg.in hL
      have hBr := hB.below hb0
      have hLr := hL.below hb0
      generalize nd ns k = x at *
      have TX := hide (tnode_any x da la dc lc g ok _ (wr.alloc (.cells (nA x (.slice da x.data.length dc) (.slice la x.list.length lc)) 70)) ((unhide hS).below (below_new _ _)) (hBr.below (below_new _ _)) (fun h0 ad e => by have := hBi h0 ad e; have := unhide HG; omega) (hLr.below (below_new _ _)) (fun h0 ad e => by have := hLi h0 ad e; have := unhide HG; omega) hmx (by have := unhide hcl; rw [List.length_append]; omega))
      have Ka := hide ((unhide hK).trans (Tk.of_below (below_new wr (.cells (nA x (.slice da x.data.length dc) (.slice la x.list.length lc)) 70))))
      obtain ⟨kind, mode, user, group, links, time, data, target, list, parent⟩ := x
      obtain ⟨c0, c1, c2, c3, c4, c5, c6, c7, c8, c9⟩ := h10r
      simp only at c0 c1 c2 c3 c4 c5 c6 c7 c8 c9 hst
      clear hcs0 h10 hB hL hBi hLi hBr hLr hNr hNs hb0 hS hK hmx
      go_wp2_with fail
      refine (unhide TX).mono ?_
      rintro e w8 ⟨rfl, o8, h1, h2⟩
      rw [List.append_assoc, ← unhide hst] at h1
      have H8 := hide h1
      have K8 := hide ((unhide Ka).trans h2)
      clear TX h1 h2 Ka c0 c1 c2 c3 c4 c5 c6 c7 c8 c9 hst
      go_wp2_with fail
      go_roundw
      case rel => exact ⟨k + 1, by omega, by go_num, o8, H8, K8⟩
      case measure => simp [intOf]; omega
    · have hlt' : ¬ (k : Int) < (ns.length : Int) := by omega
      have hkn : ns.take k = ns := List.take_of_length_le (by omega)
      rw [hkn] at hS
      clear hkn
      go_wp2_with fail
      go_end0
      refine ⟨rfl, ok, ?_, unhide hK⟩
      have := unhide hS
      rw [tree_cat (out := out) (now := now) (ns := ns) (x := cur0 ++ nodesB ns) (by rw [unhide HC])] at this
      exact this
set_option maxHeartbeats 400000 in
set_option maxRecDepth 100000 in
/-- what PutTree's closure tells -/
theorem putsT_any (now : Int) (ns : List Nd) (a : Option Addr) (cap b : Nat) (w0 : World) (g : Nat) (o : Option Nat) (out : Bs) (w : World) (hT : Tl w g o out) (hN : Ng w0 a ns.length cap ns) (hg : w0.heap.size ≤ g) (hb : Below w0.heap.size w0 w) (hm : mayTree ns = true) (hl : out.length ≤ 1000000)
    (hC : w.heap[b]? = some (.cells #[.slice a ns.length cap, .int .i64 now] 24)) :
    Calls Try.prog 16 #[tv g, .pointer (some ⟨b, 0, none⟩)] w fun e w' => e = .returned (.tuple #[]) ∧ ∃ o', Tl w' g o' (out ++ treeB now ns) ∧ Tk w w' g o o' := by
  have h1 := hide (ttree_any now ns a cap w0 g o out w hT hN hg hb hm hl)
  have k0 : w.cell? ⟨b, 0, none⟩ = some (.slice a ns.length cap) := by rw [cell_of_row _ _ _ _ _ _ hC]; rfl
  have k1 : w.cell? ⟨b, 1, none⟩ = some (.int .i64 now) := by rw [cell_of_row _ _ _ _ _ _ hC]; rfl
  clear hT hN hg hb hm hC
  go_enter Try.func16, Try.ntmps16
  go_wp2_with fail
  refine (unhide h1).mono ?_
  rintro e w2 ⟨rfl, o', h3, h4⟩
  have H3 := hide h3
  have H4 := hide h4
  clear h1 h3 h4
  go_wp2_with fail
  go_end0
  exact ⟨rfl, o', unhide H3, unhide H4⟩
/-- what PutTree answers -/
def PutTR (now : Int) (ns : List Nd) (w : World) (e : Ending) (w' : World) : Prop := (∃ v, e = .returned (.tuple #[v, .int .i64 (if mayTree ns = true then 0 else 1)]) ∧ Row w.heap.size v (if mayTree ns = true then treeB now ns else []) w') ∧ Below w.heap.size w w'
set_option maxHeartbeats 1000000 in
set_option maxRecDepth 100000 in
theorem putTree_any (now : Int) (ns : List Nd) (a : Option Addr) (cap : Nat) (w : World) (hN : Ng w a ns.length cap ns) (hs : ∀ k, k < ns.length → Szs (nd ns k)) :
    Calls Try.prog 7 #[.agg #[.slice a ns.length cap, .int .i64 now]] w (PutTR now ns w) := by
  have hmf : ∀ (fn : Fn) (first cap : Array Value) (w : World), (Instr.makeFunc fn first cap).run Try.prog w = .ok (.func fn first cap) w := fun _ _ _ _ => rfl
  obtain ⟨O, hOb⟩ : ∃ O : Obj, O = .cells #[.slice a ns.length cap, .int .i64 now] 24 := ⟨_, rfl⟩
  have hX : Hid ((w.alloc O).heap[w.heap.size]? = some O) := heap_alloc_new w _
  have hb0 : Hid (Below w.heap.size w (w.alloc O)) := below_new w _
  have A1 := hide (areNodes_any a ns.length cap ns (w.alloc O) (hN.below (below_new w O)) hs)
  have HN := hide hN
  clear hN hs
  by_cases hm : mayTree ns = true
  · have HM := hide hm
    rw [hm] at A1
    have G := hide (fun w2 (hb2 : Below w.heap.size w w2) (hX2 : w2.heap[w.heap.size]? = some O) (hb3 : (w.alloc O).heap.size ≤ w2.heap.size) => gather_any 16 #[.pointer (some ⟨w.heap.size, 0, none⟩)] (treeB now ns) w2 (fun args w' => by simp [go_sem]) (fun w1 hb hT hs => by
      have hX1 := (hb.block _ (Array.getElem?_eq_some_iff.1 hX2).1).trans hX2
      rw [hOb] at hX1
      exact putsT_any now ns a cap w.heap.size w _ none [] w1 hT (unhide HN) hb2.size (hb2.trans (hb.mono hb2.size)) (unhide HM) (by simp) hX1))
    clear hm
    go_enter Try.func7, Try.ntmps7
    go_wp2_with fail
    rw [← hOb]
    refine (unhide A1).mono ?_
    rintro e w2 ⟨rfl, hb⟩
    have hX2 := (hb.block _ (by simp)).trans (unhide hX)
    have hb2 := (unhide hb0).trans (hb.mono (by simp))
    have G2 := hide (unhide G w2 hb2 hX2 hb.size)
    have B2 := hide hb2
    clear A1 G hb hX2 hb2
    go_wp2_with fail
    refine (unhide G2).mono ?_
    rintro e w3 ⟨v, rfl, hR, hb⟩
    have HR := hide hR
    have HB3 := hide ((unhide B2).trans (hb.mono (unhide B2).size))
    clear hR hb G2
    go_wp2_with fail
    go_ret2
    refine ⟨⟨v, ?_, ?_⟩, unhide HB3⟩
    · exact congrArg (fun x => Ending.returned (.tuple #[v, .int .i64 x])) (if_pos (unhide HM)).symm
    · rw [if_pos (unhide HM)]; exact row_base (unhide HR) (unhide B2).size
  · have hm2 : mayTree ns = false := by simpa using hm
    have HM := hide hm
    rw [hm2] at A1
    clear hm hm2
    go_enter Try.func7, Try.ntmps7
    go_wp2_with fail
    rw [← hOb]
    refine (unhide A1).mono ?_
    rintro e w2 ⟨rfl, hb⟩
    have B2 := hide ((unhide hb0).trans (hb.mono (by simp)))
    clear A1 hb
    go_wp2_with fail
    go_ret2
    refine ⟨⟨.slice none 0 0, ?_, ?_⟩, unhide B2⟩
    · exact congrArg (fun x => Ending.returned (.tuple #[.slice none 0 0, .int .i64 x])) (if_neg (unhide HM)).symm
    · rw [if_neg (unhide HM)]; exact row_nil _ _
end Go.Proofs.Ytbofidpoajdcmab.Cd
