/- A reader of trees: its parts now and nodes. -/
import Derived.Test.YtbofidpoajdcmabCdTree
namespace Go.Proofs.Ytbofidpoajdcmab.Cd
open Go.RowKit Cu Tr

def BadT (w0 : World) (K : Nat) (l : Bs) (w : World) : Prop := Below K w0 w ∧ treeP l = none
abbrev nl9 : Value := .slice none 0 0
/-- behind now -/
def At1 (w0 : World) (K rb fb : Nat) (l : Bs) (w : World) : Prop := ∃ z r, intsP 1 l = some ([z], r) ∧ Jt w0 K rb fb z r nl9 [] w
/-- behind nodes -/
def At2 (w0 : World) (K rb fb : Nat) (l : Bs) (w : World) : Prop := ∃ z ns r v L, treeP l = some ((z, ns), r) ∧ L.map (·.1) = ns ∧ Jt w0 K rb fb z r v L w
def PartT (P : World → Prop) (w0 : World) (K : Nat) (l : Bs) (e : Ending) (w' : World) : Prop := (e = .returned (.bool true) ∧ P w') ∨ (e = .returned (.bool false) ∧ BadT w0 K l w')
theorem Jt.badT {w0 : World} {K rb fb : Nat} {now : Int} {r : Bs} {v : Value} {L : List Nv} {w w' : World} {S : List Addr} {l : Bs} (h : Jt w0 K rb fb now r v L w) (hf : Fr S w w') (hs : ∀ p ∈ S, p.block = rb) (hg : treeP l = none) : BadT w0 K l w' :=
  ⟨h.below.trans (hf.below (by have := h.rd.lt; have := h.rd.lo; omega) (fun p hp => by rw [hs p hp]; exact h.rd.lo)), hg⟩
set_option maxHeartbeats 2000000 in
set_option maxRecDepth 100000 in
theorem now_any (w0 : World) (K rb fb : Nat) (l : Bs) (w : World) (h' : Jt w0 K rb fb 0 l nl9 [] w) : Calls Try.prog 33 #[rp rb] w (PartT (At1 w0 K rb fb l) w0 K l) := by
  have h := h'.drew
  have hR := h.rd
  have hlt := hR.lt
  obtain ⟨O, hO⟩ : ∃ O : Obj, O = .cells #[.pointer (some ⟨rb, 2, none⟩)] 93 := ⟨_, rfl⟩
  have F0 : Fr (S := [(⟨rb, 0, none⟩ : Addr), ⟨rb, 2, none⟩]) w.drew (w.drew.alloc O) := Fr.of_below (below_new w.drew O)
  have hTs : Tgs (w.drew.alloc O) K rb w.drew.heap.size [(⟨rb, 2, none⟩ : Addr)] := by
    refine ⟨by simp, ?_, fun t ht => by
      have e : t.block = rb := by
        simp only [List.mem_cons, List.not_mem_nil, or_false] at ht
        subst ht; rfl
      rw [e]
      exact Nat.ne_of_lt hlt, by simp⟩
    intro t ht
    simp only [List.mem_cons, List.not_mem_nil, or_false] at ht
    subst ht
    exact ⟨0, Tg.fr (w := w.drew) ⟨h.c2, h.fz 2, hR.lo, hlt, by simp⟩ F0.nilS (by simp)⟩
  have hN0 := numbersInto_any K rb w.drew.heap.size 1 [(⟨rb, 2, none⟩ : Addr)] l (w.drew.alloc O) (hR.fr F0.nilS (by simp) (by simp)) hTs (by rw [hO]; exact heap_alloc_new w.drew _) (Ne.symm (Nat.ne_of_lt hlt)) rfl (by omega)
  have hN : Hid (Calls Try.prog 46 #[rp rb, .slice (some ⟨w.heap.size, 0, none⟩) 1 1] (w.alloc O).drew (NInR (w.drew.alloc O) K rb [(⟨rb, 2, none⟩ : Addr)] (intsP 1 l))) := hN0
  clear hN0
  unfold NInR at hN
  have HF0 := hide F0
  have HJ := hide h
  cases hp : intsP 1 l with
  | none =>
    rw [hp] at hN
    have hbad : Hid (treeP l = none) := hide (by rw [treeP, hp]; rfl)
    clear h h' hR F0 hTs
    subst hO
    go_enter Try.func33, Try.ntmps33
    go_wp2_with fail
    go_region_with (go_at_call 46; refine (unhide hN).mono ?_; rintro e w1 ⟨hF, rfl⟩; have F2 := hide ((unhide HF0).trans hF); clear hF)
    go_wp2_with fail
    go_ret
    exact .inr ⟨rfl, (unhide HJ).badT (unhide F2) (by simp) (unhide hbad)⟩
  | some p =>
    obtain ⟨zs, r1⟩ := p
    obtain ⟨z, rfl⟩ : ∃ z, zs = [z] := ⟨zs.getD 0 0, zs_one (intsP_len hp)⟩
    rw [hp] at hN
    have HP := hide hp
    clear h h' hR F0 hTs
    subst hO
    go_enter Try.func33, Try.ntmps33
    go_wp2_with fail
    go_region_with (go_at_call 46; refine (unhide hN).mono ?_; rintro e w1 ⟨hF, rfl, hR1, hv⟩; have J9 : Hid (Jt w0 _ rb fb z r1 nl9 [] w1) := (unhide HJ).frm ((unhide HF0).trans hF) (fun p hp => by simp only [List.mem_cons, List.not_mem_nil, or_false] at hp; exact hp) hR1 (hv 0 _ z rfl rfl); clear hF hR1 hv)
    go_wp2_with fail
    go_ret
    exact .inl ⟨rfl, z, r1, unhide HP, unhide J9⟩
abbrev bxN (rb : Nat) : Obj := .cells #[rp rb, .int .u8 0, .int .i64 0, .int .i64 0, .int .i64 0, .int .i64 0, .int .i64 0, .slice none 0 0, .string ⟨#[]⟩, .slice none 0 0, .int .i64 0] 98
theorem start_N (wr : World) (K rb : Nat) (r : Bs) (hR : Rd wr K rb r) : Jn 0 wr K rb wr.heap.size (wr.heap.size + 1) r n1 ((wr.alloc (bxN rb)).alloc (fnN wr.heap.size)) := by
  have b1 := below_new wr (bxN rb)
  have b2 := below_new (wr.alloc (bxN rb)) (fnN wr.heap.size)
  have b12 := b1.trans (b2.mono b1.size)
  have e1 : ((wr.alloc (bxN rb)).alloc (fnN wr.heap.size)).heap[wr.heap.size]? = some (bxN rb) := (b2.block _ (by simp)).trans (heap_alloc_new wr _)
  have e2 : ((wr.alloc (bxN rb)).alloc (fnN wr.heap.size)).heap[wr.heap.size + 1]? = some (fnN wr.heap.size) := by
    have := heap_alloc_new (wr.alloc (bxN rb)) (fnN wr.heap.size)
    rwa [World.size_alloc] at this
  have hlt := hR.lt
  have F : Fr [] wr ((wr.alloc (bxN rb)).alloc (fnN wr.heap.size)) := Fr.of_below b12
  refine ⟨F.mono (by simp), e2, ⟨Nat.le_refl _, Nat.le_succ _, by omega, hlt⟩, by rw [cell_of_row _ _ _ _ _ _ e1]; rfl, nz, r, nl9, nl9, hR.fr F (by simp) (by simp), ⟨fun i v hv => ?_, fun i => frozen_of e1 i, by simp; omega⟩, row_nil _ _, own_nil9 _ _ _ _, rfl, Nat.le_refl _⟩
  rw [cell_of_row _ _ _ _ _ _ e1, ← hv]
  have hi10 : i < 10 := by
    have := (Array.getElem?_eq_some_iff.1 hv).1
    simpa using this
  exact ten (P := fun i => (#[rp rb, .int .u8 0, .int .i64 0, .int .i64 0, .int .i64 0, .int .i64 0, .int .i64 0, .slice none 0 0, .string ⟨#[]⟩, .slice none 0 0, .int .i64 0] : Array Value)[i + 1]? = (nA nz nl9 nl9)[i]?) rfl rfl rfl rfl rfl rfl rfl rfl rfl rfl i hi10
theorem map_snoc9 {L : List Nv} {ns : List Nd} {x : Nv} (h : L.map (·.1) = ns) : (L ++ [x]).map (·.1) = ns ++ [x.1] := by simp [h]
set_option maxHeartbeats 4000000 in
set_option maxRecDepth 100000 in
theorem nodes_any (w0 : World) (K rb fb : Nat) (l : Bs) (w : World) (h : At1 w0 K rb fb l w) : Calls Try.prog 34 #[rp rb] w (PartT (At2 w0 K rb fb l) w0 K l) := by
  obtain ⟨i0, hi0, hz0, hz1, hz2⟩ := info_parts infoNod
  obtain ⟨z, r0, hl, hJ⟩ := h
  have hN := hide (rlength_any K rb 513 r0 w hJ.rd (by omega))
  unfold LenR at hN
  have HJ := hide hJ
  have HL := hide hl
  clear hJ hl
  cases hp : lenP 513 r0 with
  | none =>
    rw [hp] at hN
    have hbad : Hid (treeP l = none) := hide (by rw [treeP, unhide HL]; simp [nodesP9, hp])
    go_enter Try.func34, Try.ntmps34
    go_wp2_with fail
    refine (unhide hN).mono ?_
    rintro e w1 ⟨hF, rfl⟩
    have F2 := hide hF
    clear hN hF
    go_wp2_with fail
    go_loopw [14] (fun v wr => v = .int .i64 0 ∧ wr = w1) (fun _ _ => 0)
    case atStart => exact ⟨rfl, rfl⟩
    case round =>
      obtain ⟨rfl, rfl⟩ := hrel
      go_wp2_with fail
      go_ret
      exact .inr ⟨rfl, (unhide HJ).badT (unhide F2) (by simp) (unhide hbad)⟩
  | some p =>
    obtain ⟨m, r1⟩ := p
    have hm := lenP_le hp
    rw [hp] at hN
    have hT : Hid (treeP l = (manyP nodeP m r1).map fun q => ((z, q.1), q.2)) := hide (by rw [treeP, unhide HL]; simp [nodesP9, hp])
    go_enter Try.func34, Try.ntmps34
    go_wp2_with fail
    refine (unhide hN).mono ?_
    rintro e9 w1 ⟨hF, rfl, hR1⟩
    have J1 : Hid (Jt w0 K rb fb z r1 nl9 [] w1) := (unhide HJ).fr0 hF hR1
    clear hN hF hR1 HJ
    go_wp2_with fail
    go_loopw [14] (fun v wr => ∃ i : Nat, i ≤ m ∧ v = .int .i64 i ∧ ∃ ns r u L, Hid (manyP nodeP i r1 = some (ns, r)) ∧ Hid (L.map (·.1) = ns) ∧ Hid (Jt w0 K rb fb z r u L wr)) (fun v _ => m - (intOf v).toNat)
    case atStart => exact ⟨0, Nat.zero_le _, rfl, [], r1, nl9, [], rfl, rfl, J1⟩
    case round =>
      clear J1
      obtain ⟨i, hi, rfl, ns, r, u, L, hM, hL, hJ⟩ := hrel
      by_cases hlt : i < m
      · have hlt' : (i : Int) < (m : Int) := by omega
        have hR := (unhide hJ).rd
        have hrb := hR.lt
        have W := hide (nwhole_any wr K rb wr.heap.size (wr.heap.size + 1) r _ (start_N wr K rb r hR))
        have PA := hide (nparts_any wr.heap.size (wr.alloc (bxN rb)))
        rw [World.size_alloc] at PA
        clear hR
        go_wp2_with fail
        refine (unhide PA).mono ?_
        rintro e9 w2 ⟨rfl, rfl⟩
        clear PA
        go_wp2_with fail
        refine (unhide W).mono ?_
        rintro e9 w5 hW
        clear W
        rcases hW with ⟨rfl, hN⟩ | ⟨rfl, hF, hno⟩
        · obtain ⟨n, r2, d, e, hR, hC, hD, hE, hg, hbl⟩ := hN.ex
          have hJ5 : Jt w0 K rb fb z r2 u L w5 := (unhide hJ).fr0 hN.fr hR
          have hM2 : Hid (manyP nodeP (i + 1) r1 = some (ns ++ [n], r2)) := hide (by rw [manyP_snoc, unhide hM]; simp [hg, n7])
          obtain ⟨da, dc, rfl⟩ := own_slice9 hD
          obtain ⟨la, lc, rfl⟩ := own_slice9 hE
          have hrn : rb + 1 ≤ wr.heap.size + 1 := by omega
          have hap : ∀ y ∈ L, Apt y (n, .slice da n.data.length dc, .slice la n.list.length lc) := fun y hy => ⟨fun k hk q => by
            have h1 := (own_at9 ((unhide hJ).own y hy).1 k hk).2
            have h2 := (own_at9 hD k q).1
            omega, fun k hk q => by
            have h1 := (own_at9 ((unhide hJ).own y hy).2 k hk).2
            have h2 := (own_at9 hE k q).1
            omega⟩
          have hx5 : Hd (rb + 1) w5 (n, .slice da n.data.length dc, .slice la n.list.length lc) := ⟨own_base9 hD hrn, own_base9 hE hrn⟩
          have hlm : L.length = i := by
            have := congrArg List.length (unhide hL)
            rw [List.length_map] at this
            rw [this]
            exact manyP_len (unhide hM)
          have F : Fr [] w5 w5.drew := (Fr.refl [] w5).drew 1
          obtain ⟨ua, uc, rfl⟩ := own_slice9 hJ5.row
          rw [hlm] at hJ5
          have HA : Hid (∀ v1 w6, w6.ownsRow (rb + 1) 70 10 v1 (i + 1) (cellsOf L ++ nc n (.slice da n.data.length dc) (.slice la n.list.length lc)) → (w5.drew.alloc (.cells (nA n (.slice da n.data.length dc) (.slice la n.list.length lc)) 70)).grownBy w6 (Value.slice ua i uc).ownBlock → (∃ a c, v1 = .slice a (i + 1) c) ∧ w6.cell? ⟨rb, 1, none⟩ = some (.slice ua i uc) ∧ w6.frozen? ⟨rb, 1, none⟩ = false ∧ Jt w0 K rb fb z r2 v1 (L ++ [(n, .slice da n.data.length dc, .slice la n.list.length lc)]) (w6.setCell ⟨rb, 1, none⟩ v1)) := fun v1 w6 hO hG => by
            have q := app_endT hJ5.drew (hx5.fr F (fun p hp => by simp at hp)) hap (by rw [hlm]; exact hO) hG
            rw [hlm] at q
            exact q
          have HE4 : Hid (w5.drew.ownsRow (rb + 1) 70 10 (.slice ua i uc) i (cellsOf L)) := by
            have q := hJ5.drew.row
            unfold RowN at q
            rw [hlm] at q
            exact q
          have k1 := hJ5.c1
          have HM9 := hide (map_snoc9 (x := (n, .slice da n.data.length dc, .slice la n.list.length lc)) (unhide hL))
          have hn5 : wr.heap.size < w5.heap.size := hC.lt
          have hr5 : rb < w5.heap.size := hJ5.rd.lt
          obtain ⟨kind, mode, user, group, links, time, data, target, list, parent⟩ := n
          have q1 : w5.cell? ⟨wr.heap.size, 1, none⟩ = some (.int .u8 (kind.toNat : Int)) := hC.cells 0 _ rfl
          have q2 : w5.cell? ⟨wr.heap.size, 2, none⟩ = some (.int .i64 mode) := hC.cells 1 _ rfl
          have q3 : w5.cell? ⟨wr.heap.size, 3, none⟩ = some (.int .i64 user) := hC.cells 2 _ rfl
          have q4 : w5.cell? ⟨wr.heap.size, 4, none⟩ = some (.int .i64 group) := hC.cells 3 _ rfl
          have q5 : w5.cell? ⟨wr.heap.size, 5, none⟩ = some (.int .i64 links) := hC.cells 4 _ rfl
          have q6 : w5.cell? ⟨wr.heap.size, 6, none⟩ = some (.int .i64 time) := hC.cells 5 _ rfl
          have q7 : w5.cell? ⟨wr.heap.size, 7, none⟩ = some (.slice da data.length dc) := hC.cells 6 _ rfl
          have q8 : w5.cell? ⟨wr.heap.size, 8, none⟩ = some (.string target) := hC.cells 7 _ rfl
          have q9 : w5.cell? ⟨wr.heap.size, 9, none⟩ = some (.slice la list.length lc) := hC.cells 8 _ rfl
          have q10 : w5.cell? ⟨wr.heap.size, 10, none⟩ = some (.int .i64 parent) := hC.cells 9 _ rfl
          simp only at HA HM9
          clear hN hR hC hD hE hg hJ5 hap hx5 hM hL hJ F hrn hbl
          go_wp2_with fail
          go_region_law (refine step_append_own rfl (.tmp 28) (.tmp 31) 22 rfl (rb + 1) 70 i0 _ 10 120 Try.underlying22 hi0 hz0 hz1 hz2 rfl (by decide) (.slice ua i uc) i (cellsOf L) (by simp [Act.eval]) (by exact ((unhide HE4).alloc _)) ⟨w5.heap.size, 0, none⟩ 1 1 (nc ⟨kind, mode, user, group, links, time, data, target, list, parent⟩ (.slice da data.length dc) (.slice la list.length lc)) (by simp [Act.eval]) rfl (by exact ten_new w5.drew _ _ _) (one_nc _ _ _ _ _ _ _) (by unfold maxLen; omega) (by omega) (by simp; omega) ?_; intro v1 w6 hO6 hG6; obtain ⟨⟨va, vc, rfl⟩, hc6, hf6, hJ6⟩ := unhide HA v1 w6 hO6 (by exact hG6); have J6 := hide hJ6; clear hO6 hG6 hJ6)
          all_goals
            clear HA HE4 k1 q1 q2 q3 q4 q5 q6 q7 q8 q9 q10
            go_wp2_with fail
            go_roundw
            case rel => exact ⟨i + 1, by omega, by go_num, _, r2, _, _, hM2, HM9, J6⟩
            case measure => simp [intOf]; omega
        · have hbad : Hid (treeP l = none) := hide (by
            rw [unhide hT, manyP_none (i := i + 1) (by rw [manyP_snoc, unhide hM]; simp [hno]) m (by omega)]
            rfl)
          have F2 := hide hF
          clear hF hno
          go_wp2_with fail
          go_ret
          exact .inr ⟨rfl, (unhide hJ).badT (unhide F2) (by simp) (unhide hbad)⟩
      · obtain rfl : i = m := by omega
        have hT2 : Hid (treeP l = some ((z, ns), r)) := hide (by rw [unhide hT, unhide hM]; rfl)
        clear hT hM
        go_wp2_with fail
        go_ret
        exact .inl ⟨rfl, z, ns, r, u, L, unhide hT2, unhide hL, unhide hJ⟩
end Go.Proofs.Ytbofidpoajdcmab.Cd
