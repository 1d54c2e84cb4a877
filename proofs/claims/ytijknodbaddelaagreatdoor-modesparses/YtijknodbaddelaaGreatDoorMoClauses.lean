/- What clauseChanges answers. -/
import Derived.Test.YtijknodbaddelaaGreatDoorMoClause
namespace Go.Proofs.YtijknodbaddelaaGreatDoor.Mo
open Go.RowKit Go.Shelf

/-- what clauseChanges leaves -/
def ClR (w : World) (s : Bs) (e : Ending) (w' : World) : Prop :=
  (clauseP s = none ∧ (∃ a n c, e = .returned (.tuple #[.slice a n c, .bool false])) ∧ Below w.heap.size w w') ∨
  ∃ l v, clauseP s = some l ∧ e = .returned (.tuple #[v, .bool true]) ∧ w'.ownsRow w.heap.size 54 5 v l.length (cl l) ∧ Below w.heap.size w w'
theorem row_slice {w : World} {B : Nat} {v : Value} {l : List Ch} (h : w.ownsRow B 54 5 v l.length (cl l)) : ∃ a c, v = .slice a l.length c := by
  rcases h.2 with ⟨hv, h0⟩ | ⟨g, cap, cur, hv, _⟩
  · exact ⟨none, 0, by rw [hv, h0]⟩
  · exact ⟨_, _, hv⟩
theorem row_some {w : World} {B n : Nat} {v : Value} {xs : List Value} (h : w.ownsRow B 54 5 v (n + 1) xs) : ∃ g c, v = .slice (some ⟨g, 0, none⟩) (n + 1) c := by
  rcases h.2 with ⟨hv, h1⟩ | ⟨g, cap, cur, hv, _⟩
  · omega
  · exact ⟨_, _, hv⟩
theorem row_ne {w : World} {B n : Nat} {e : TypeId} {v : Value} {xs : List Value} (h : w.ownsRow (B + 1) e 5 v n xs) : v.ownBlock = none ∨ v.ownBlock ≠ some B := by
  cases hv : v.ownBlock with
  | none => exact .inl rfl
  | some g => exact .inr fun e => by have := (h.lt g hv).1; cases e; omega
theorem row_ne2 {w : World} {B n : Nat} {e : TypeId} {v : Value} {xs : List Value} (h : w.ownsRow (B + 1) e 5 v n xs) : some B ≠ v.ownBlock := fun e => by have := (h.lt B e.symm).1; omega
theorem grown_two {w w2 : World} {o : Obj} {row : Option Nat} (h : (w.alloc o).grownBy w2 row) : w.grownBy w2 row :=
  ⟨h.os, h.tape, h.output, Nat.le_trans (by simp) h.size, fun k hk hne => (h.block k (by simp; omega) hne).trans (Below.heap_alloc w o k hk)⟩
theorem run_no {s : ByteArray} {i : Nat} {st : St} (h : i < s.size) (hr : runP st0 ((bs s).take i) = some st) (hs : stepP st (s[i].toNat : Int) = none) : clauseP (bs s) = none := by
  have h1 : runP st0 (bs s) = none := by
    rw [bs_split s i h]
    exact runP_none (by rw [runP_snoc hr]; exact hs)
  unfold clauseP; rw [h1]
theorem run_yes {s : ByteArray} {i : Nat} {st st' : St} (h : i < s.size) (hr : runP st0 ((bs s).take i) = some st) (hs : stepP st (s[i].toNat : Int) = some st') : runP st0 ((bs s).take (i + 1)) = some st' := by
  rw [take_bs s i h, runP_snoc hr]; exact hs
theorem step_op (st : St) (r : Int) (h : isOp r = true) : stepP st r = some ⟨st.who, st.all, some ⟨st.who, UInt8.ofNat r.toNat, 0, 0, false⟩⟩ := by
  unfold stepP; rw [if_pos h]
theorem step_add {st : St} {r : Int} {ch : Ch} (h : isOp r = false) (hc : st.cur = some ch) : stepP st r = (addP ch r).map fun ch' => ⟨st.who, st.pre, some ch'⟩ := by
  unfold stepP; rw [if_neg (by rw [h]; decide), hc]
theorem step_who {st : St} {r : Int} (h : isOp r = false) (hc : st.cur = none) : stepP st r = if whoZ r = 0 then none else some ⟨orI st.who (whoZ r), st.pre, none⟩ := by
  unfold stepP; rw [if_neg (by rw [h]; decide), hc]
theorem cl_set (pre : List Ch) (ch ch' : Ch) (j : Nat) (u : Value) (h : cc ch' = (cc ch).set j u) : (cl (pre ++ [ch])).set (pre.length * 5 + j) u = cl (pre ++ [ch']) := by
  rw [cl_snoc, cl_snoc, h, List.set_append_right _ _ (by rw [cl_length]; omega), cl_length, Nat.add_sub_cancel_left]
theorem c5_last {w : World} {B g cap : Nat} {pre : List Ch} {ch : Ch} {n : Nat} (h : w.ownsRow B 54 5 (.slice (some ⟨g, 0, none⟩) n cap) n (cl (pre ++ [ch]))) : C5 w g (pre.length * 5) ch := by
  refine .at fun j u hj => ?_
  have := h.cells (g := g) rfl (pre.length * 5 + j) u (by
    rw [cl_snoc, List.getElem?_append_right (by rw [cl_length]; omega), cl_length, Nat.add_sub_cancel_left]; exact hj)
  rw [add_none, Nat.zero_add] at this
  exact this
set_option maxHeartbeats 2000000 in
set_option maxRecDepth 100000 in
theorem clause_any (s : ByteArray) (w : World) (hs : s.size ≤ 4096) :
    Calls Tryz.prog 14 #[.string s] w (ClR w (bs s)) := by
  obtain ⟨i0, hi0, hz0, hz1, hz2⟩ := info_parts Tryz.infoCh
  go_enter Tryz.func14, Tryz.ntmps14
  go_wp2_with fail
  have hb0 : Hid ((w.iter s 0).heap[w.heap.size]? = some (.stringIter s 0)) := World.iter_heap w s 0
  have hB0 : Hid (Below w.heap.size w (w.iter s 0)) := (Below.refl _ w).alloc (Nat.le_refl _) _
  go_loopg [4, 5, 7, 8] s.size (fun g v4 v5 _ _ wx => ∃ (i : Nat) (st : St) (a5 : Option Addr) (c5 : Nat), v5 = .slice a5 st.all.length c5 ∧ i ≤ s.size ∧ s.size - i ≤ g ∧ v4 = .int .i64 st.who ∧ Hid (runP st0 ((bs s).take i) = some st) ∧ Hid (wx.ownsRow (w.heap.size + 1) 54 5 (.slice a5 st.all.length c5) st.all.length (cl st.all)) ∧ Hid (wx.heap[w.heap.size]? = some (.stringIter s i)) ∧ Hid (Below w.heap.size w wx))
  case atStart => exact ⟨0, st0, none, 0, rfl, by omega, by omega, rfl, rfl, World.ownsRow_nil _ _ _ _, hb0, hB0⟩
  case round =>
    clear hb0 hB0
    obtain ⟨i, st, a5, c5, rfl, hi, hg, rfl, hR, hO, hit, hB⟩ := hrel
    have hbl : w.heap.size < wr.heap.size := (Array.getElem?_eq_some_iff.1 (unhide hit)).1
    have hlen : st.all.length ≤ 4096 := by
      have := runP_len (unhide hR)
      rw [List.length_take, bs_len] at this
      simp [St.all, st0] at this ⊢
      omega
    by_cases hlt : i < s.size
    · have hnx := fun ty => next_at wr w.heap.size s i ty (unhide hit) hlt
      have HNO := hide (fun h => run_no (st := st) hlt (unhide hR) h)
      have HYES := hide (fun st' h => run_yes (st := st) (st' := st') hlt (unhide hR) h)
      have hdc := dec_at s i hlt
      have HEQ : Hid (stepP st (s[i].toNat : Int) = stepP st ((Utf8.decode s i).1 : Int)) := by
        rcases hdc with ⟨_, hd⟩ | ⟨h1, h2, _⟩
        · rw [hd]; rfl
        · show _ = _
          rw [stepP_high (by omega), stepP_high (by omega)]
      have HPOS : Hid (stepP st ((Utf8.decode s i).1 : Int) ≠ none → (Utf8.decode s i).2 = 1) := by
        intro hne
        rcases hdc with ⟨_, hd⟩ | ⟨h1, h2, _⟩
        · rw [hd]
        · exact absurd (stepP_high (by omega)) hne
      have hr31 : ((Utf8.decode s i).1 : Int) ≤ 2147483647 := by
        rcases hdc with ⟨h1, hd⟩ | ⟨h1, h2, h3⟩
        · rw [hd]; simp; omega
        · omega
      obtain ⟨W, hW⟩ : ∃ W, W = wr.putObj w.heap.size (.stringIter s (i + (Utf8.decode s i).2)) := ⟨_, rfl⟩
      rw [← hW] at hnx
      have hitW : Hid (W.heap[w.heap.size]? = some (.stringIter s (i + (Utf8.decode s i).2))) := by rw [hW]; exact World.putObj_heap_same hbl
      have hgW : wr.grownBy W (some w.heap.size) := by rw [hW]; exact grownBy_putObj' _ _ _
      have hBW : Hid (Below w.heap.size w W) := (unhide hB).grown hgW (unhide hB).size (by intro j hj; cases hj; omega)
      have hOW : Hid (W.ownsRow (w.heap.size + 1) 54 5 (.slice a5 st.all.length c5) st.all.length (cl st.all)) := (unhide hO).kept hgW (row_ne (unhide hO))
      have hszW : w.heap.size < W.heap.size := (Array.getElem?_eq_some_iff.1 (unhide hitW)).1
      obtain ⟨r, HRR⟩ : ∃ r : Int, Hid (r = ((Utf8.decode s i).1 : Int)) := ⟨_, rfl⟩
      rw [← unhide HRR] at hnx HEQ HPOS hr31
      have hR0 := hR
      clear hW hgW hB hit hO hdc hR
      have hr0 : 0 ≤ r := by rw [unhide HRR]; omega
      clear HRR
      rw [unhide HEQ] at HNO
      rw [unhide HEQ] at HYES
      by_cases ho : isOp r = true
      · have hst := hide (step_op st r ho)
        have hit2 : Hid (W.heap[w.heap.size]? = some (.stringIter s (i + 1))) := by
          have := unhide hitW
          rw [unhide HPOS (by rw [unhide hst]; simp)] at this
          exact this
        have hrun := hide (unhide HYES _ (unhide hst))
        clear HNO HYES HEQ HPOS hitW hst hR0
        have hr : r = 43 ∨ r = 45 ∨ r = 61 := by simpa [isOp, or_assoc] using ho
        clear ho
        rcases hr with rfl | rfl | rfl
        · go_wp2_with (at_builtin; refine wpList_append_own _ rfl _ _ 23 rfl (w.heap.size + 1) 54 i0 _ 5 32 Tryz.underlying23 hi0 hz0 hz1 hz2 rfl (by decide) _ _ _ rfl ((unhide hOW).alloc _) ⟨W.heap.size, 0, none⟩ 1 1 (cc ⟨st.who, 43, 0, 0, false⟩) rfl rfl (by exact five_new _ ⟨st.who, 43, 0, 0, false⟩ _) (five_one _) (by unfold maxLen; omega) (by omega) (by simp; omega) ?_; intro v' w4 hown4 hg4 hnil4)
          have hgr := grown_two (row := (Value.slice a5 st.all.length c5).ownBlock) hg4
          have hit4 : Hid (w4.heap[w.heap.size]? = some (.stringIter s (i + 1))) := (hgr.block _ hszW (row_ne2 (unhide hOW))).trans (unhide hit2)
          have hB4 : Hid (Below w.heap.size w w4) := (unhide hBW).grown hgr (unhide hBW).size (fun j hj => by have := ((unhide hOW).lt j hj).1; omega)
          have hall : (St.all ⟨st.who, st.all, some ⟨st.who, 43, 0, 0, false⟩⟩).length = st.all.length + 1 := List.length_append
          obtain ⟨g, cap, rfl⟩ := row_some hown4
          have hO4 : Hid (w4.ownsRow (w.heap.size + 1) 54 5 (.slice (some ⟨g, 0, none⟩) (St.all ⟨st.who, st.all, some ⟨st.who, 43, 0, 0, false⟩⟩).length cap) (St.all ⟨st.who, st.all, some ⟨st.who, 43, 0, 0, false⟩⟩).length (cl (St.all ⟨st.who, st.all, some ⟨st.who, 43, 0, 0, false⟩⟩))) := by
            rw [hall, show St.all ⟨st.who, st.all, some ⟨st.who, 43, 0, 0, false⟩⟩ = st.all ++ [⟨st.who, 43, 0, 0, false⟩] from rfl, cl_snoc]; exact hown4
          have HA := hide hall
          clear hown4 hg4 hnil4 hgr hOW hBW hit2 hall
          go_roundg (s.size - (i + 1))
          case measure => omega
          case rel => exact ⟨i + 1, ⟨st.who, st.all, some ⟨st.who, 43, 0, 0, false⟩⟩, some ⟨g, 0, none⟩, cap, by rw [unhide HA], by omega, by omega, rfl, hrun, hO4, hit4, hB4⟩
        · go_wp2_with (at_builtin; refine wpList_append_own _ rfl _ _ 23 rfl (w.heap.size + 1) 54 i0 _ 5 32 Tryz.underlying23 hi0 hz0 hz1 hz2 rfl (by decide) _ _ _ rfl ((unhide hOW).alloc _) ⟨W.heap.size, 0, none⟩ 1 1 (cc ⟨st.who, 45, 0, 0, false⟩) rfl rfl (by exact five_new _ ⟨st.who, 45, 0, 0, false⟩ _) (five_one _) (by unfold maxLen; omega) (by omega) (by simp; omega) ?_; intro v' w4 hown4 hg4 hnil4)
          have hgr := grown_two (row := (Value.slice a5 st.all.length c5).ownBlock) hg4
          have hit4 : Hid (w4.heap[w.heap.size]? = some (.stringIter s (i + 1))) := (hgr.block _ hszW (row_ne2 (unhide hOW))).trans (unhide hit2)
          have hB4 : Hid (Below w.heap.size w w4) := (unhide hBW).grown hgr (unhide hBW).size (fun j hj => by have := ((unhide hOW).lt j hj).1; omega)
          have hall : (St.all ⟨st.who, st.all, some ⟨st.who, 45, 0, 0, false⟩⟩).length = st.all.length + 1 := List.length_append
          obtain ⟨g, cap, rfl⟩ := row_some hown4
          have hO4 : Hid (w4.ownsRow (w.heap.size + 1) 54 5 (.slice (some ⟨g, 0, none⟩) (St.all ⟨st.who, st.all, some ⟨st.who, 45, 0, 0, false⟩⟩).length cap) (St.all ⟨st.who, st.all, some ⟨st.who, 45, 0, 0, false⟩⟩).length (cl (St.all ⟨st.who, st.all, some ⟨st.who, 45, 0, 0, false⟩⟩))) := by
            rw [hall, show St.all ⟨st.who, st.all, some ⟨st.who, 45, 0, 0, false⟩⟩ = st.all ++ [⟨st.who, 45, 0, 0, false⟩] from rfl, cl_snoc]; exact hown4
          have HA := hide hall
          clear hown4 hg4 hnil4 hgr hOW hBW hit2 hall
          go_roundg (s.size - (i + 1))
          case measure => omega
          case rel => exact ⟨i + 1, ⟨st.who, st.all, some ⟨st.who, 45, 0, 0, false⟩⟩, some ⟨g, 0, none⟩, cap, by rw [unhide HA], by omega, by omega, rfl, hrun, hO4, hit4, hB4⟩
        · go_wp2_with (at_builtin; refine wpList_append_own _ rfl _ _ 23 rfl (w.heap.size + 1) 54 i0 _ 5 32 Tryz.underlying23 hi0 hz0 hz1 hz2 rfl (by decide) _ _ _ rfl ((unhide hOW).alloc _) ⟨W.heap.size, 0, none⟩ 1 1 (cc ⟨st.who, 61, 0, 0, false⟩) rfl rfl (by exact five_new _ ⟨st.who, 61, 0, 0, false⟩ _) (five_one _) (by unfold maxLen; omega) (by omega) (by simp; omega) ?_; intro v' w4 hown4 hg4 hnil4)
          have hgr := grown_two (row := (Value.slice a5 st.all.length c5).ownBlock) hg4
          have hit4 : Hid (w4.heap[w.heap.size]? = some (.stringIter s (i + 1))) := (hgr.block _ hszW (row_ne2 (unhide hOW))).trans (unhide hit2)
          have hB4 : Hid (Below w.heap.size w w4) := (unhide hBW).grown hgr (unhide hBW).size (fun j hj => by have := ((unhide hOW).lt j hj).1; omega)
          have hall : (St.all ⟨st.who, st.all, some ⟨st.who, 61, 0, 0, false⟩⟩).length = st.all.length + 1 := List.length_append
          obtain ⟨g, cap, rfl⟩ := row_some hown4
          have hO4 : Hid (w4.ownsRow (w.heap.size + 1) 54 5 (.slice (some ⟨g, 0, none⟩) (St.all ⟨st.who, st.all, some ⟨st.who, 61, 0, 0, false⟩⟩).length cap) (St.all ⟨st.who, st.all, some ⟨st.who, 61, 0, 0, false⟩⟩).length (cl (St.all ⟨st.who, st.all, some ⟨st.who, 61, 0, 0, false⟩⟩))) := by
            rw [hall, show St.all ⟨st.who, st.all, some ⟨st.who, 61, 0, 0, false⟩⟩ = st.all ++ [⟨st.who, 61, 0, 0, false⟩] from rfl, cl_snoc]; exact hown4
          have HA := hide hall
          clear hown4 hg4 hnil4 hgr hOW hBW hit2 hall
          go_roundg (s.size - (i + 1))
          case measure => omega
          case rel => exact ⟨i + 1, ⟨st.who, st.all, some ⟨st.who, 61, 0, 0, false⟩⟩, some ⟨g, 0, none⟩, cap, by rw [unhide HA], by omega, by omega, rfl, hrun, hO4, hit4, hB4⟩
      · have hof : isOp r = false := by simpa using ho
        have h3 : (r == 43) = false ∧ (r == 45) = false ∧ (r == 61) = false := by simpa [isOp, and_assoc] using hof
        obtain ⟨h43, h45, h61⟩ := h3
        have hnil := hide (fun h => runP_nil (st := st0) (st' := st) (a := (bs s).take i) (unhide hR0) (fun _ => rfl) h)
        clear ho hR0
        obtain ⟨who, pre, cur⟩ := st
        cases cur with
        | some ch =>
          have hst := hide (step_add (st := ⟨who, pre, some ch⟩) hof rfl)
          have hall : (St.all ⟨who, pre, some ch⟩).length = pre.length + 1 := by simp [St.all]
          have hO2 : Hid (W.ownsRow (w.heap.size + 1) 54 5 (.slice a5 (pre.length + 1) c5) (pre.length + 1) (cl (pre ++ [ch]))) := by
            have := unhide hOW
            rw [hall] at this
            exact this
          rw [hall] at hlen ⊢
          obtain ⟨g, c5', hvv⟩ := row_some (unhide hO2)
          simp at hvv
          obtain ⟨rfl, rfl⟩ := hvv
          have hgl := ((unhide hO2).lt g rfl).1
          have hgl2 := ((unhide hO2).lt g rfl).2
          have HADD := hide (addSign_any g (pre.length * 5) ch r W (c5_last (unhide hO2)) (fun o => (unhide hO2).frozenAt o))
          clear hall hOW hof hnil
          obtain ⟨m, HM⟩ : ∃ m, Hid (m = pre.length) := ⟨_, rfl⟩
          rw [← unhide HM] at HADD hlen hO2 ⊢
          go_wp2_with fail
          refine (unhide HADD).mono ?_
          rintro e w4 (⟨hno, rfl, hw4⟩ | ⟨ch', j, u, hyes, rfl, hj, hcc, hw4⟩)
          · have hnone : Hid (clauseP (bs s) = none) := unhide HNO (by rw [unhide hst, hno]; rfl)
            rw [hw4]
            clear hno hw4 HADD hst HNO HYES HEQ HPOS hitW hO2
            go_wp2_with fail
            go_ret2
            exact .inl ⟨unhide hnone, ⟨none, 0, 0, rfl⟩, unhide hBW⟩
          · have hrun := hide (unhide HYES ⟨who, pre, some ch'⟩ (by rw [unhide hst, hyes]; rfl))
            have hit2 : W.heap[w.heap.size]? = some (.stringIter s (i + 1)) := by
              have := unhide hitW
              rw [unhide HPOS (by rw [unhide hst, hyes]; simp)] at this
              exact this
            have hsto := (unhide hO2).stored (m * 5 + j) u
            rw [← hw4] at hsto
            have hcl := cl_set pre ch ch' j u hcc
            rw [← unhide HM] at hcl
            rw [hcl] at hsto
            have hit4 : Hid (w4.heap[w.heap.size]? = some (.stringIter s (i + 1))) := (hsto.2.block _ hszW (by intro e; cases e; omega)).trans hit2
            have hB4 : Hid (Below w.heap.size w w4) := (unhide hBW).grown hsto.2 (unhide hBW).size (by intro k hk; cases hk; omega)
            have hall : (St.all ⟨who, pre, some ch'⟩).length = m + 1 := by rw [unhide HM]; exact List.length_append
            have hO4 : Hid (w4.ownsRow (w.heap.size + 1) 54 5 (.slice (some ⟨g, 0, none⟩) (St.all ⟨who, pre, some ch'⟩).length c5) (St.all ⟨who, pre, some ch'⟩).length (cl (St.all ⟨who, pre, some ch'⟩))) := by
              rw [hall]; exact hsto.1
            have HA := hide hall
            clear hyes hw4 hcc HADD hst HNO HYES HEQ HPOS hitW hO2 hsto hcl hit2 hall hBW hnx
            go_wp2_with fail
            go_roundg (s.size - (i + 1))
            case measure => omega
            case rel => exact ⟨i + 1, ⟨who, pre, some ch'⟩, some ⟨g, 0, none⟩, c5, by rw [unhide HA], by omega, by omega, rfl, hrun, hO4, hit4, hB4⟩
        | none =>
          have hst := hide (step_who (st := ⟨who, pre, none⟩) hof rfl)
          obtain rfl : pre = [] := unhide hnil rfl
          clear hof hnil
          have HW := hide (whoOf_any r W)
          have hall : (St.all ⟨who, [], none⟩).length = 0 := rfl
          rw [hall] at hOW hlen ⊢
          clear hall
          by_cases hz : whoZ r = 0
          · have hno : Hid (clauseP (bs s) = none) := unhide HNO (by rw [unhide hst, if_pos hz])
            rw [hz] at HW
            clear hz hst HNO HYES HEQ HPOS hitW hOW
            go_wp2_with fail
            refine (unhide HW).mono ?_
            rintro e w4 ⟨rfl, hw4⟩
            rw [hw4]
            go_wp2_with fail
            go_ret2
            exact .inl ⟨unhide hno, ⟨none, 0, 0, rfl⟩, unhide hBW⟩
          · have hrun := hide (unhide HYES ⟨orI who (whoZ r), [], none⟩ (by rw [unhide hst, if_neg hz]))
            have hit2 : Hid (W.heap[w.heap.size]? = some (.stringIter s (i + 1))) := by
              have := unhide hitW
              rw [unhide HPOS (by rw [unhide hst, if_neg hz]; simp)] at this
              exact this
            have hzb : (whoZ r == 0) = false := by simpa using hz
            obtain ⟨z, HZ⟩ : ∃ z, Hid (z = whoZ r) := ⟨_, rfl⟩
            rw [← unhide HZ] at HW hzb hrun
            clear hz hst HNO HYES HEQ HPOS hitW
            go_wp2_with fail
            refine (unhide HW).mono ?_
            rintro e w4 ⟨rfl, hw4⟩
            rw [hw4]
            clear hw4
            go_wp2_with fail
            go_roundg (s.size - (i + 1))
            case measure => omega
            case rel => exact ⟨i + 1, ⟨orI who z, [], none⟩, a5, c5, rfl, by omega, by omega, rfl, hrun, hOW, hit2, hBW⟩
    · have hnx := fun ty => next_none wr w.heap.size s i ty (unhide hit) hlt
      have hfull : (bs s).take i = bs s := List.take_of_length_le (by rw [bs_len]; omega)
      rw [hfull] at hR
      obtain ⟨who, pre, cur⟩ := st
      cases cur with
      | none =>
        obtain rfl : pre = [] := runP_nil (unhide hR) (fun _ => rfl) rfl
        have hno : Hid (clauseP (bs s) = none) := by unfold clauseP; rw [unhide hR]; rfl
        have hall : (St.all ⟨who, [], none⟩).length = 0 := rfl
        rw [hall] at hlen ⊢
        clear hfull hit hR hO hall
        go_wp2_with fail
        go_ret2
        exact .inl ⟨unhide hno, ⟨_, _, _, rfl⟩, unhide hB⟩
      | some ch =>
        have hyes : Hid (clauseP (bs s) = some (St.all ⟨who, pre, some ch⟩)) := by unfold clauseP; rw [unhide hR]; rfl
        have hpos : 0 < (St.all ⟨who, pre, some ch⟩).length := by simp [St.all]
        have hO2 := hide (own_base (base' := w.heap.size) (unhide hO) (by omega))
        clear hfull hit hR hO
        generalize St.all ⟨who, pre, some ch⟩ = l at *
        obtain ⟨n, hn⟩ : ∃ n, n = l.length := ⟨_, rfl⟩
        rw [← hn] at hpos hlen ⊢
        have HN := hide hn
        clear hn
        go_wp2_with fail
        go_ret2
        exact .inr ⟨l, _, unhide hyes, rfl, by rw [← unhide HN]; have := unhide hO2; rw [← unhide HN] at this; exact this, unhide hB⟩
end Go.Proofs.YtijknodbaddelaaGreatDoor.Mo
