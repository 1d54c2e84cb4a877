/- What Paste answers. -/
import Derived.Test.YtjkajhnnoecjbaaDoorVwBeside
import Derived.Laws.CopyOwn
import Derived.Lib.MinMax
set_option linter.unusedVariables false
namespace Go.Proofs.YtjkajhnnoecjbaaDoor.Vw
open Go.RowKit Go.Shelf Cu
open Pa (Tx tot)

/-- lists of texts that came in -/
def LL (w : World) (a : Option Addr) (n : Nat) (As : List (List ByteArray)) : Prop :=
  As.length = n ∧ (n = 0 ∨ ∃ g off, a = some ⟨g, off, none⟩ ∧ g < w.heap.size ∧ ∀ i, i < n → ∃ b lb cb, w.cell? ⟨g, off + i, none⟩ = some (.slice b lb cb) ∧ Tx w b lb cb (As.getD i []))
theorem LL.below {w w' : World} {a : Option Addr} {n : Nat} {As : List (List ByteArray)} (h : LL w a n As) (hb : Below w.heap.size w w') : LL w' a n As := by
  refine ⟨h.1, ?_⟩
  rcases h.2 with h | ⟨g, off, e, hg, hc⟩
  · exact .inl h
  · exact .inr ⟨g, off, e, Nat.lt_of_lt_of_le hg hb.size, fun i hi => by
      obtain ⟨b, lb, cb, h1, h2⟩ := hc i hi
      exact ⟨b, lb, cb, (hb.cell hg).trans h1, h2.below hb⟩⟩
abbrev txl (As : List (List ByteArray)) : List (List Bs) := As.map txs
/-- the n-th of each -/
def nthB (As : List (List ByteArray)) (n : Nat) : List ByteArray := As.map fun A => A.getD n ByteArray.empty
theorem getD_txs (A : List ByteArray) (n : Nat) : (txs A).getD n [] = bs (A.getD n ByteArray.empty) := by
  rw [List.getD, List.getD, List.getElem?_map]
  cases A[n]? <;> rfl
theorem nth_txl (As : List (List ByteArray)) (n : Nat) : nth (txl As) n = txs (nthB As n) := by
  unfold nth nthB
  rw [List.map_map]
  show _ = List.map bs (List.map _ As)
  rw [List.map_map]
  apply List.map_congr_left
  intro A _
  exact getD_txs A n
theorem most_take (As : List (List ByteArray)) (k : Nat) (h : k < As.length) : most ((txl As).take (k + 1)) = max (most ((txl As).take k)) (As.getD k []).length := by
  rw [List.take_succ_eq_append_getElem (by simpa using h), most_snoc]
  simp [List.getD, List.getElem?_eq_getElem h]
theorem most_le (As : List (List ByteArray)) (m : Nat) (h : ∀ A ∈ As, A.length ≤ m) : most (txl As) ≤ m := by
  induction As with
  | nil => simp [most]
  | cons A As ih =>
    have h1 := h A (by simp)
    have h2 := ih (fun B hB => h B (by simp [hB]))
    show max (txs A).length (most (txl As)) ≤ m
    rw [List.length_map]
    omega
theorem tot_le_mul (m : Nat) : ∀ (X : List ByteArray), (∀ s ∈ X, s.size ≤ m) → tot X ≤ X.length * m
  | [], _ => by simp [tot]
  | s :: X, h => by
    have h1 := h s (by simp)
    have h2 := tot_le_mul m X (fun t ht => h t (by simp [ht]))
    rw [tot, List.length_cons, Nat.add_mul]
    omega
def stv (X : List ByteArray) : List Value := X.map Value.string
theorem stv_set (X : List ByteArray) (k : Nat) (x : ByteArray) : (stv X).set k (.string x) = stv (X.set k x) := by unfold stv; rw [List.map_set]
theorem stv_at (X : List ByteArray) (k : Nat) (h : k < X.length) : (stv X)[k]? = some (.string (X.getD k ByteArray.empty)) := by
  unfold stv
  simp [List.getD, List.getElem?_eq_getElem h]
theorem own_base {w : World} {base base' : Nat} {e : TypeId} {size : Nat} {v : Value} {n : Nat} {xs : List Value} (h : w.ownsRow base e size v n xs) (hb : base' ≤ base) : w.ownsRow base' e size v n xs := by
  refine ⟨h.1, ?_⟩
  rcases h.2 with hn | ⟨g, cap, cur, rfl, hg, rest⟩
  · exact .inl hn
  · exact .inr ⟨g, cap, cur, rfl, by omega, rest⟩
abbrev RowT (B : Nat) (v : Value) (xs : List Bs) (w : World) : Prop := w.ownsRow B 9 1 v xs.length (xs.map fun x => Value.string (bt x))

set_option maxRecDepth 100000 in
set_option maxHeartbeats 1000000 in
theorem paste_any (a : Option Addr) (n cap : Nat) (As : List (List ByteArray)) (seps : ByteArray) (w : World) (hL : LL w a n As) (hn : n ≤ 1048577) (hA : ∀ A ∈ As, A.length ≤ 1048577) (hS : ∀ A ∈ As, ∀ s ∈ A, s.size ≤ 1048577) (hsp : seps.size ≤ 4611686018427387904) :
    Calls Tryd.prog 9 #[.slice a n cap, .string seps] w fun e w' => ∃ v, e = .returned v ∧ RowT w.heap.size v (pasteP (txl As) (bs seps)) w' ∧ Below w.heap.size w w' := by
  obtain ⟨i0, hi, hz0, hz1, hz2⟩ := info_parts Pa.Tryd.infoStr
  have HL := hide hL
  have hal : As.length = n := hL.1
  have hmost := most_le As 1048577 hA
  have HA := hide hA
  have HS := hide hS
  clear hL hA hS
  go_enter Tryd.func9, Tryd.ntmps9
  go_wp2_with fail
  go_loopw [5, 15] (fun v5 v15 wr => ∃ k m : Nat, v15 = .int .i64 k ∧ k ≤ n ∧ v5 = .int .i64 m ∧ m ≤ 1048577 ∧ Hid (m = most ((txl As).take k)) ∧ wr = w) (fun _ v _ => n - (intOf v).toNat)
  case atStart => exact ⟨0, 0, rfl, Nat.zero_le _, rfl, by omega, by show _ = _; rw [List.take_zero]; rfl, rfl⟩
  case round =>
    obtain ⟨k, m, rfl, hk, rfl, hm, hmo, hwr⟩ := hrel
    obtain rfl := hwr.symm
    by_cases hlt : k < n
    · have hlt' : (k : Int) < (n : Int) := by omega
      rcases (unhide HL).2 with h0 | ⟨g, off, rfl, hg, hc⟩
      · omega
      obtain ⟨b, lb, cb, hcx, hTx⟩ := hc k hlt
      have hmo2 := most_take As k (by omega)
      rw [hTx.len, ← unhide hmo] at hmo2
      have hlb : lb ≤ 1048577 := by
        rw [← hTx.len, List.getD, List.getElem?_eq_getElem (show k < As.length by omega)]
        exact unhide HA _ (List.getElem_mem _)
      have hmo3 := hide hmo2.symm
      have hmax : max (m : Int) (lb : Int) = ((max m lb : Nat) : Int) := by omega
      have hmm : max m lb ≤ 1048577 := by omega
      generalize max m lb = m2 at *
      clear hTx hc hmo2 hmo
      go_wp2_with fail
      go_roundw
      case rel => exact ⟨k + 1, m2, by go_num, by omega, by go_num, hmm, hmo3, by simp⟩
      case measure => simp [intOf]; omega
    · obtain rfl : k = n := by omega
      have hmo2 : m = most (txl As) := by rw [unhide hmo, List.take_of_length_le (by rw [List.length_map]; omega)]
      have HM := hide hmo2
      clear hmo hmo2
      have hse : Hid (k ≤ maxLen) := by unfold maxLen; show k ≤ _; omega
      go_wp2_with (at_make; refine wpList_make_full _ rfl _ _ 25 rfl w.heap.size 9 i0 _ 1 Tryd.underlying25 hi hz0 hz1 _ _ _ _ k rfl rfl rfl rfl (by rw [hz2]; omega) (unhide hse) (Nat.le_refl _) ?_; intro w3 hown3 hgrow3)
      obtain ⟨g, hg⟩ : ∃ g, g = w.heap.size := ⟨_, rfl⟩
      have hb3 : Hid (Below w.heap.size w w3) := (Below.refl w.heap.size w).grown hgrow3 (Nat.le_refl _) (by simp)
      have hO3 : Hid (w3.ownsRow g 9 1 (.slice (some ⟨g, 0, none⟩) k k) k (stv (List.replicate k ByteArray.empty))) := by
        have := hown3
        rw [Nat.mul_one, show (Value.string ByteArray.empty).cells = #[.string ByteArray.empty] from rfl, toList_madeCells_one] at this
        rw [hg, stv, List.map_replicate]
        exact this
      have hg3 : g < w3.heap.size := ((unhide hO3).lt g rfl).2
      rw [← hg] at hb3 ⊢
      have HG := hide hg
      clear hown3 hgrow3 hg
      go_loopw [8, 28] (fun v8 v28 wq => ∃ (j : Nat) (X : List ByteArray), v28 = .int .i64 j ∧ j ≤ m ∧ X.length = k ∧ Hid (RowT (g + 1) v8 (pasteTo (txl As) (bs seps) j) wq) ∧ Hid (wq.ownsRow g 9 1 (.slice (some ⟨g, 0, none⟩) k k) k (stv X)) ∧ Hid (Below g w wq)) (fun _ v _ => m - (intOf v).toNat)
      case atStart => exact ⟨0, List.replicate k ByteArray.empty, rfl, Nat.zero_le _, by simp, World.ownsRow_nil _ _ _ _, hO3, hb3⟩
      case round =>
        clear hO3 hb3 hg3
        obtain ⟨j, X, rfl, hj, hXl, hT, hO, hB⟩ := hrel
        have hgw : g < wr.heap.size := ((unhide hO).lt g rfl).2
        by_cases hjm : j < m
        · have hjm' : (j : Int) < (m : Int) := by omega
          go_wp2_with fail
          go_loopw [33] (fun v33 wq => ∃ (i : Nat) (X : List ByteArray), v33 = .int .i64 i ∧ i ≤ k ∧ X.length = k ∧ Hid (X.take i = (nthB As j).take i) ∧ Hid (RowT (g + 1) u8 (pasteTo (txl As) (bs seps) j) wq) ∧ Hid (wq.ownsRow g 9 1 (.slice (some ⟨g, 0, none⟩) k k) k (stv X)) ∧ Hid (Below g w wq)) (fun v _ => k - (intOf v).toNat)
          case atStart => exact ⟨0, X, rfl, Nat.zero_le _, hXl, by show _ = _; rw [List.take_zero, List.take_zero], hT, hO, hB⟩
          case round =>
            clear hT hO hB hXl hgw X
            obtain ⟨i, X, rfl, hik, hXl, hXt, hT, hO, hB⟩ := hrel
            have hgw : g < wr.heap.size := ((unhide hO).lt g rfl).2
            by_cases hlt : i < k
            · have hlt' : (i : Int) < (k : Int) := by omega
              rcases (unhide HL).2 with h0 | ⟨q, off, rfl, hq, hc⟩
              · omega
              obtain ⟨b, lb, cb, hcx, hTx⟩ := hc i hlt
              have hcx' := ((unhide hB).cell (p := ⟨q, off + i, none⟩) (by rw [unhide HG]; exact hq)).trans hcx
              have hgd : (nthB As j).getD i ByteArray.empty = (As.getD i []).getD j ByteArray.empty := by
                unfold nthB
                rw [List.getD, List.getElem?_map, List.getElem?_eq_getElem (show i < As.length by omega)]
                simp [List.getD, List.getElem?_eq_getElem (show i < As.length by omega)]
              have hoc := ((unhide hO).cellAt i (by omega)).trans (stv_at X i (by omega))
              have hof := (unhide hO).frozenAt i
              have step : ∀ (x : ByteArray), x = (As.getD i []).getD j ByteArray.empty → (X.set i x).take (i + 1) = (nthB As j).take (i + 1) := fun x hx => by
                have h1 : i < X.length := by omega
                have h2 : i < (nthB As j).length := by unfold nthB; rw [List.length_map]; omega
                rw [List.take_succ_eq_append_getElem (by simpa using h1), List.take_succ_eq_append_getElem h2]
                have h3 : (nthB As j)[i] = x := by
                  rw [hx, ← hgd, List.getD, List.getElem?_eq_getElem h2]; rfl
                rw [h3]
                congr 1
                · rw [List.take_set_of_le (by omega)]; exact unhide hXt
                · simp
              have putX : ∀ (W : World) (Y : List ByteArray) (x : ByteArray), RowT (g + 1) u8 (pasteTo (txl As) (bs seps) j) W → W.ownsRow g 9 1 (.slice (some ⟨g, 0, none⟩) k k) k (stv Y) → Below g w W →
                  RowT (g + 1) u8 (pasteTo (txl As) (bs seps) j) (W.setCell ⟨g, i, none⟩ (.string x)) ∧ (W.setCell ⟨g, i, none⟩ (.string x)).ownsRow g 9 1 (.slice (some ⟨g, 0, none⟩) k k) k (stv (Y.set i x)) ∧ Below g w (W.setCell ⟨g, i, none⟩ (.string x)) := fun W Y x h1 h2 h3 => by
                have hs := h2.stored i (.string x)
                rw [stv_set] at hs
                exact ⟨h1.kept hs.2 (.inr fun e => by have := (h1.lt g e).1; omega), hs.1, h3.setCell (p := ⟨g, i, none⟩) (Nat.le_refl _) _⟩
              obtain ⟨p1, p2, p3⟩ := putX wr X { data := #[] } (unhide hT) (unhide hO) (unhide hB)
              have hi2 : i < (X.set i { data := #[] }).length := by simpa using (show i < X.length by omega)
              have hoc2 := (p2.cellAt i (by omega)).trans (stv_at _ i hi2)
              have hof2 := p2.frozenAt i
              have hgw2 : g < (wr.setCell ⟨g, i, none⟩ (.string { data := #[] })).heap.size := (p2.lt g rfl).2
              by_cases hjl : j < lb
              · have hjl' : (j : Int) < (lb : Int) := by omega
                rcases hTx.cells with h0 | ⟨r, o2, rfl, hr, hrc⟩
                · omega
                obtain ⟨x, hx⟩ : ∃ x, x = (As.getD i []).getD j ByteArray.empty := ⟨_, rfl⟩
                have hxc := (p3.cell (p := ⟨r, o2 + j, none⟩) (by rw [unhide HG]; exact hr)).trans (hrc j hjl)
                rw [← hx] at hxc
                have hst := hide (step x hx)
                obtain ⟨q1, q2, q3⟩ := putX _ _ x p1 p2 p3
                rw [List.set_set] at q2
                have Q1 := hide q1
                have Q2 := hide q2
                have Q3 := hide q3
                clear q1 q2 q3 p1 p2 p3 putX step hx hrc hTx hc hcx hT hO hB hgd
                go_wp2_with fail
                go_roundw
                case rel => exact ⟨i + 1, X.set i x, by go_num, by omega, by simpa using hXl, hst, Q1, Q2, Q3⟩
                case measure => simp [intOf]; omega
              · have hjl' : ¬ (j : Int) < (lb : Int) := by omega
                have hx : ({ data := #[] } : ByteArray) = (As.getD i []).getD j ByteArray.empty := by
                  rw [List.getD, List.getElem?_eq_none (by rw [hTx.len]; omega)]; rfl
                have hst := hide (step _ hx)
                have P1 := hide p1
                have P2 := hide p2
                have P3 := hide p3
                clear p1 p2 p3 putX step hx hTx hc hcx hT hO hB hgd hoc2 hof2
                go_wp2_with fail
                go_roundw
                case rel => exact ⟨i + 1, X.set i { data := #[] }, by go_num, by omega, by simpa using hXl, hst, P1, P2, P3⟩
                case measure => simp [intOf]; omega
            · obtain rfl : i = k := by omega
              have hXe : X = nthB As j := by
                have h1 := unhide hXt
                rw [List.take_of_length_le (by omega), List.take_of_length_le (by unfold nthB; rw [List.length_map]; omega)] at h1
                exact h1
              have hOx := unhide hO
              unfold stv at hOx
              have hTX : Tx wr (some ⟨g, 0, none⟩) i i X := by
                have h1 := hOx
                rw [← hXl] at h1
                obtain ⟨a', c', e, hx⟩ := Pa.tx_of_owns h1
                simp only [Value.slice.injEq] at e
                obtain ⟨rfl, _, rfl⟩ := e
                rw [hXl] at hx
                exact hx
              have hmem : ∀ s ∈ X, s.size ≤ 1048577 := fun s hs => by
                rw [hXe] at hs
                unfold nthB at hs
                obtain ⟨A, hA1, rfl⟩ := List.mem_map.1 hs
                rw [List.getD]
                cases hAj : A[j]? with
                | none => exact Nat.zero_le _
                | some y => exact unhide HS A hA1 y (List.mem_of_getElem? hAj)
              have htt := tot_le_mul 1048577 X hmem
              have hmul : X.length * 1048577 ≤ 1048577 * 1048577 := Nat.mul_le_mul_right _ (by omega)
              have HBs := beside_any seps (some ⟨g, 0, none⟩) i i i X wr hTX (by omega) (by omega) hsp
              rw [hXe, ← nth_txl] at HBs
              have HBs := hide HBs
              have hpt := hide (pasteTo_succ (txl As) (bs seps) j)
              have hpl := pasteTo_len (txl As) (bs seps) j
              generalize besideP (bs seps) 0 (nth (txl As) j) = y at *
              generalize hPT : pasteTo (txl As) (bs seps) j = PT at *
              clear hTX hOx hmem htt hmul hXe hXt hPT
              go_wp2_with fail
              refine (unhide HBs).mono ?_
              rintro e w4 ⟨rfl, b4⟩
              have B4 := hide ((unhide hB).trans (b4.mono (by omega)))
              have T4 := hide (own_below (unhide hT) b4)
              have O4 := hide (own_below (unhide hO) b4)
              have hgw4 : g < w4.heap.size := ((unhide O4).lt g rfl).2
              clear HBs b4 hT hO hB
              go_wp2_with (at_builtin; refine wpList_append_own _ rfl _ _ 25 rfl (g + 1) 9 i0 _ 1 16 Tryd.underlying25 hi hz0 hz1 hz2 rfl (by decide) _ _ _ rfl ((unhide T4).alloc _) ⟨w4.heap.size, 0, none⟩ 1 1 [.string (bt y)] rfl rfl (byte_new _ _ _) (by simp [Value.oneCell']) (by unfold maxLen; omega) (by omega) (by simp; omega) ?_)
              intro v5 w5 hO5 hg5 _
              have hg5' := grown_alloc hg5
              have B5 : Hid (Below g w w5) := (unhide B4).grown hg5' (by omega) (fun j ej => by have := ((unhide T4).lt j ej).1; omega)
              have T5 : Hid (RowT (g + 1) v5 (pasteTo (txl As) (bs seps) (j + 1)) w5) := by
                show World.ownsRow _ _ _ _ _ _ _
                rw [unhide hpt, List.length_append, List.map_append, hpl]
                exact hO5
              have O5 : Hid (w5.ownsRow g 9 1 (.slice (some ⟨g, 0, none⟩) i i) i (stv X)) := (unhide O4).kept hg5' (.inr fun e => by
                have e' : u8.ownBlock = some g := e.symm
                have := ((unhide T4).lt g e').1
                omega)
              obtain ⟨g5, c5, rfl⟩ : ∃ g5 c5, v5 = .slice (some ⟨g5, 0, none⟩) (j + 1) c5 := Ln.ownsRow_some hO5
              clear hO5 hg5 hg5' T4 O4 B4
              go_wp2_with fail
              go_roundw
              case rel => exact ⟨j + 1, X, by go_num, by omega, hXl, T5, O5, B5⟩
              case measure => simp [intOf]; omega
        · obtain rfl : j = m := by omega
          have hfin : Hid (RowT w.heap.size u8 (pasteP (txl As) (bs seps)) wr) := by
            have h1 := unhide hT
            rw [unhide HM] at h1
            exact own_base h1 (by rw [unhide HG]; omega)
          rw [unhide HG] at hB
          obtain ⟨ua, uc, hu⟩ : ∃ ua uc, u8 = .slice ua (pasteP (txl As) (bs seps)).length uc := by
            rcases (unhide hfin).2 with ⟨hv, h0⟩ | ⟨g, cap, cur, hv, _⟩
            · exact ⟨none, 0, by rw [hv, h0]⟩
            · exact ⟨_, _, hv⟩
          subst hu
          clear hT hO
          go_wp2_with fail
          go_ret
          exact ⟨_, rfl, unhide hfin, unhide hB⟩
end Go.Proofs.YtjkajhnnoecjbaaDoor.Vw
