/- Whether a tree may be put: what areEntries and areNodes answer. -/
import Derived.Test.YtbofidpoajdcmabCdPut
import Derived.Test.YtbofidpoajdcmabCdTreeP
namespace Go.Proofs.Ytbofidpoajdcmab.Cd
open Go.RowKit Cu Tr

theorem mayEnts_step {es : List En} {k : Nat} (hk : k < es.length) (hb : ¬ (en es k).name.size ≤ 65536) : mayEnts es = false := by
  cases h : mayEnts es with
  | false => rfl
  | true =>
    have := (mayEnts_all h).2 (en es k) (by simp [en, List.getD, List.getElem?_eq_getElem hk])
    exact absurd this hb
theorem mayEnts_yes {es : List En} (h : es.length ≤ 512) (hb : ∀ k, k < es.length → (en es k).name.size ≤ 65536) : mayEnts es = true := by
  simp only [mayEnts, Bool.and_eq_true, decide_eq_true_eq, List.all_eq_true]
  refine ⟨h, fun e he => ?_⟩
  obtain ⟨k, hk, rfl⟩ := List.mem_iff_getElem.1 he
  have := hb k hk
  simpa [en, List.getD, List.getElem?_eq_getElem hk] using this
theorem mayTree_step {ns : List Nd} {k : Nat} (hk : k < ns.length) (hb : mayNode (nd ns k) = false) : mayTree ns = false := by
  cases h : mayTree ns with
  | false => rfl
  | true =>
    have := (mayTree_all h).2 (nd ns k) (by simp [nd, List.getD, List.getElem?_eq_getElem hk])
    rw [hb] at this
    cases this
theorem mayTree_yes {ns : List Nd} (h : ns.length ≤ 513) (hb : ∀ k, k < ns.length → mayNode (nd ns k) = true) : mayTree ns = true := by
  simp only [mayTree, Bool.and_eq_true, decide_eq_true_eq, List.all_eq_true]
  refine ⟨h, fun e he => ?_⟩
  obtain ⟨k, hk, rfl⟩ := List.mem_iff_getElem.1 he
  have := hb k hk
  simpa [nd, List.getD, List.getElem?_eq_getElem hk] using this
theorem all_more {P : Nat → Prop} {k : Nat} (h : ∀ j, j < k → P j) (hk : P k) : ∀ j, j < k + 1 → P j := fun j hj => by
  by_cases e : j = k
  · subst e; exact hk
  · exact h j (by omega)
set_option maxHeartbeats 400000 in
set_option maxRecDepth 100000 in
theorem areEntries_any (a : Option Addr) (n cap : Nat) (es : List En) (w : World) (h : Eg w a n cap es) (hs : ∀ k, k < n → (en es k).name.size ≤ 4611686018427387904) :
    Calls Try.prog 28 #[.slice a n cap] w fun e w' => e = .returned (.bool (mayEnts es)) ∧ Below w.heap.size w w' := by
  have hn := h.len
  have H := hide h
  have HS := hide hs
  clear h hs
  by_cases h5 : n ≤ 512
  · have h5' : ¬ (512 : Int) < (n : Int) := by omega
    have HN := hide hn
    clear hn
    go_enter Try.func28, Try.ntmps28
    go_wp2_with fail
    go_loopw [10] (fun v wr => ∃ k : Nat, k ≤ n ∧ v = .int .i64 k ∧ Hid (Below w.heap.size w wr) ∧ Hid (∀ j, j < k → (en es j).name.size ≤ 65536)) (fun v _ => n - (intOf v).toNat)
    case atStart => exact ⟨0, Nat.zero_le _, rfl, Below.refl _ _, fun j hj => by omega⟩
    case round =>
      obtain ⟨k, hk, rfl, hb, hal⟩ := hrel
      by_cases hlt : k < n
      · have hlt' : (k : Int) < (n : Int) := by omega
        obtain ⟨b, off, rfl, hbl, hcs⟩ : ∃ b off, a = some ⟨b, off, none⟩ ∧ b < w.heap.size ∧ ∀ i, i < n → E2 w b (off + i * 2) (en es i) := by
          rcases (unhide H).cells with h | h
          · omega
          · exact h
        have hE := (hcs k hlt).of fun o => (unhide hb).cell (p := ⟨b, o, none⟩) hbl
        have hsz := unhide HS k hlt
        have hst := hide (fun hb => mayEnts_step (es := es) (k := k) (by have := unhide HN; omega) hb)
        have hal2 := hide (fun (hx : (en es k).name.size ≤ 65536) => all_more (P := fun j => (en es j).name.size ≤ 65536) (unhide hal) hx)
        generalize en es k = x at *
        obtain ⟨nm, node⟩ := x
        have c0 := hE.c0
        have c1 := hE.c1
        have hb2 := hide ((unhide hb).trans ((below_new wr (.cells #[.string nm, .int .i64 node] 88)).mono (unhide hb).size))
        have T := hide (isText_s nm (wr.alloc (.cells #[.string nm, .int .i64 node] 88)) hsz)
        simp only at c0 c1 hst hal2
        clear hE hcs hal hb hsz
        by_cases hq : nm.size ≤ 65536
        · rw [decide_eq_true hq] at T
          have hal3 := hide (unhide hal2 hq)
          clear hal2 hst hq
          go_wp2_with fail
          refine (unhide T).mono ?_
          rintro e w2 ⟨rfl, rfl⟩
          clear T
          go_wp2_with fail
          go_roundw
          case rel => exact ⟨k + 1, by omega, by go_num, hb2, hal3⟩
          case measure => simp [intOf]; omega
        · rw [decide_eq_false hq] at T
          have hno := hide (unhide hst hq)
          clear hal2 hst hq
          go_wp2_with fail
          refine (unhide T).mono ?_
          rintro e w2 ⟨rfl, rfl⟩
          clear T
          go_wp2_with fail
          go_ret
          exact ⟨by rw [unhide hno]; rfl, unhide hb2⟩
      · obtain rfl : k = n := by omega
        have hyes := hide (mayEnts_yes (es := es) (by have := unhide HN; omega) (by rw [unhide HN]; exact unhide hal))
        clear hal
        go_wp2_with fail
        go_ret
        exact ⟨by rw [unhide hyes]; rfl, unhide hb⟩
  · have h5' : (512 : Int) < (n : Int) := by omega
    have hno : Hid (mayEnts es = false) := hide (by unfold mayEnts; rw [decide_eq_false (by omega)]; rfl)
    go_enter Try.func28, Try.ntmps28
    go_wp2_with fail
    go_ret
    exact ⟨by rw [unhide hno]; rfl, Below.refl _ _⟩
/-- texts that are in memory -/
def Szs (n : Nd) : Prop := n.target.size ≤ 4611686018427387904 ∧ ∀ k, k < n.list.length → (en n.list k).name.size ≤ 4611686018427387904
abbrev nA (n : Nd) (d l : Value) : Array Value := #[.int .u8 (n.kind.toNat : Int), .int .i64 n.mode, .int .i64 n.user, .int .i64 n.group, .int .i64 n.links, .int .i64 n.time, d, .string n.target, l, .int .i64 n.parent]
theorem mayNode_eq (n : Nd) : mayNode n = (decide (n.data.length ≤ 65536) && decide (n.target.size ≤ 65536) && mayEnts n.list) := rfl
set_option maxHeartbeats 2000000 in
set_option maxRecDepth 100000 in
theorem areNodes_any (a : Option Addr) (n cap : Nat) (ns : List Nd) (w : World) (h : Ng w a n cap ns) (hs : ∀ k, k < n → Szs (nd ns k)) :
    Calls Try.prog 14 #[.slice a n cap] w fun e w' => e = .returned (.bool (mayTree ns)) ∧ Below w.heap.size w w' := by
  have hn := h.len
  have H := hide h
  have HS := hide hs
  clear h hs
  by_cases h5 : n ≤ 513
  · have h5' : ¬ (513 : Int) < (n : Int) := by omega
    have HN := hide hn
    clear hn
    go_enter Try.func14, Try.ntmps14
    go_wp2_with fail
    go_loopw [10] (fun v wr => ∃ k : Nat, k ≤ n ∧ v = .int .i64 k ∧ Hid (Below w.heap.size w wr) ∧ Hid (∀ j, j < k → mayNode (nd ns j) = true)) (fun v _ => n - (intOf v).toNat)
    case atStart => exact ⟨0, Nat.zero_le _, rfl, Below.refl _ _, fun j hj => by omega⟩
    case round =>
      obtain ⟨k, hk, rfl, hb, hal⟩ := hrel
      by_cases hlt : k < n
      · have hlt' : (k : Int) < (n : Int) := by omega
        obtain ⟨b, off, rfl, hbl, hcs⟩ : ∃ b off, a = some ⟨b, off, none⟩ ∧ b < w.heap.size ∧ ∀ i, i < n → Nx w b (off + i * 10) (nd ns i) := by
          rcases (unhide H).cells with h | h
          · omega
          · exact h
        obtain ⟨da, dc, la, lc, h10, hB, hL⟩ := (hcs k hlt).below hbl (unhide hb |>.mono (Nat.le_refl _))
        have hsz := unhide HS k hlt
        have hst := hide (fun hb => mayTree_step (ns := ns) (k := k) (by have := unhide HN; omega) hb)
        have hal2 := hide (fun (hx : mayNode (nd ns k) = true) => all_more (P := fun j => mayNode (nd ns j) = true) (unhide hal) hx)
        generalize nd ns k = x at *
        obtain ⟨kind, mode, user, group, links, time, data, target, list, parent⟩ := x
        obtain ⟨c0, c1, c2, c3, c4, c5, c6, c7, c8, c9⟩ := h10
        obtain ⟨hs1, hs2⟩ := hsz
        simp only at c0 c1 c2 c3 c4 c5 c6 c7 c8 c9 hB hL hst hal2 hs1 hs2
        obtain ⟨O, hO⟩ : ∃ O : Obj, O = .cells #[.int .u8 (kind.toNat : Int), .int .i64 mode, .int .i64 user, .int .i64 group, .int .i64 links, .int .i64 time, .slice da data.length dc, .string target, .slice la list.length lc, .int .i64 parent] 70 := ⟨_, rfl⟩
        have hb2 := hide ((unhide hb).trans ((below_new wr O).mono (unhide hb).size))
        have D1 := hide (isText_b da data.length dc (wr.alloc O))
        have D2 := hide (isText_s target (wr.alloc O) hs1)
        have D3 := hide (areEntries_any la list.length lc list (wr.alloc O) (hL.below (below_new wr O)) hs2)
        rw [hO] at hb2 D1 D2 D3
        have HM := hide (mayNode_eq ⟨kind, mode, user, group, links, time, data, target, list, parent⟩)
        simp only at HM
        clear hcs hal hb hB hL hs1 hs2 hO
        by_cases hq1 : data.length ≤ 65536
        · rw [decide_eq_true hq1] at D1 HM
          by_cases hq2 : target.size ≤ 65536
          · rw [decide_eq_true hq2] at D2 HM
            cases hq3 : mayEnts list with
            | true =>
              rw [hq3] at D3 HM
              have hal3 := hide (unhide hal2 (unhide HM))
              clear hal2 hst HM hq1 hq2 hq3
              go_wp2_with fail
              refine (unhide D1).mono ?_
              rintro e w2 ⟨rfl, rfl⟩
              go_wp2_with fail
              refine (unhide D2).mono ?_
              rintro e w2 ⟨rfl, rfl⟩
              go_wp2_with fail
              refine (unhide D3).mono ?_
              rintro e w2 ⟨rfl, hb3⟩
              have hb4 := hide ((unhide hb2).trans (hb3.mono (unhide hb2).size))
              clear D1 D2 D3 hb3 c0 c1 c2 c3 c4 c5 c6 c7 c8 c9
              go_wp2_with fail
              go_roundw
              case rel => exact ⟨k + 1, by omega, by go_num, hb4, hal3⟩
              case measure => simp [intOf]; omega
            | false =>
              rw [hq3] at D3 HM
              have hno := hide (unhide hst (unhide HM))
              clear hal2 hst HM hq1 hq2 hq3
              go_wp2_with fail
              refine (unhide D1).mono ?_
              rintro e w2 ⟨rfl, rfl⟩
              go_wp2_with fail
              refine (unhide D2).mono ?_
              rintro e w2 ⟨rfl, rfl⟩
              go_wp2_with fail
              refine (unhide D3).mono ?_
              rintro e w2 ⟨rfl, hb3⟩
              have hb4 := hide ((unhide hb2).trans (hb3.mono (unhide hb2).size))
              clear D1 D2 D3 hb3 c0 c1 c2 c3 c4 c5 c6 c7 c8 c9
              go_wp2_with fail
              go_ret
              exact ⟨by rw [unhide hno]; rfl, unhide hb4⟩
          · rw [decide_eq_false hq2] at D2 HM
            have hno := hide (unhide hst (unhide HM))
            clear hal2 hst HM hq1 hq2 D3
            go_wp2_with fail
            refine (unhide D1).mono ?_
            rintro e w2 ⟨rfl, rfl⟩
            go_wp2_with fail
            refine (unhide D2).mono ?_
            rintro e w2 ⟨rfl, rfl⟩
            go_wp2_with fail
            go_ret
            exact ⟨by rw [unhide hno]; rfl, unhide hb2⟩
        · rw [decide_eq_false hq1] at D1 HM
          have hno := hide (unhide hst (unhide HM))
          clear hal2 hst HM hq1 D2 D3
          go_wp2_with fail
          refine (unhide D1).mono ?_
          rintro e w2 ⟨rfl, rfl⟩
          go_wp2_with fail
          go_ret
          exact ⟨by rw [unhide hno]; rfl, unhide hb2⟩
      · obtain rfl : k = n := by omega
        have hyes := hide (mayTree_yes (ns := ns) (by have := unhide HN; omega) (by rw [unhide HN]; exact unhide hal))
        clear hal
        go_wp2_with fail
        go_ret
        exact ⟨by rw [unhide hyes]; rfl, unhide hb⟩
  · have h5' : (513 : Int) < (n : Int) := by omega
    have hno : Hid (mayTree ns = false) := hide (by unfold mayTree; rw [decide_eq_false (by omega)]; rfl)
    go_enter Try.func14, Try.ntmps14
    go_wp2_with fail
    go_ret
    exact ⟨by rw [unhide hno]; rfl, Below.refl _ _⟩
end Go.Proofs.Ytbofidpoajdcmab.Cd
