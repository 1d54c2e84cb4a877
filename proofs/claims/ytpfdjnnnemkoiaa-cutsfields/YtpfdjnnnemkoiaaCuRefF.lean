/- What the document's own Fields answers. -/
import Derived.Test.YtpfdjnnnemkoiaaCuFields
import Derived.Test.YtpfdjnnnemkoiaaCuRefB
namespace Go.Proofs.Ytpfdjnnnemkoiaa.Cu
open Go.RowKit Go.Shelf
open Ls (R Rg has)

theorem cv_to (x : ByteArray) (W : World) : ∃ (c : Nat) (o : Obj), (convert 9 39 (.string x)).run Try.prog W = .ok (.slice (some ⟨W.heap.size, 0, none⟩) x.size c) (W.alloc o).drew ∧ (∀ j u, (Lib.strCells x)[j]? = some u → (W.alloc o).cell? ((⟨W.heap.size, 0, none⟩ : Addr).add j) = some u) := by
  refine ⟨_, _, run_bytes_of_string W 9 39 5 x Try.underlying9 Try.underlying39 Try.underlying5, ?_⟩
  intro j u hj
  have hj' : j < x.data.size := by
    have := (List.getElem?_eq_some_iff.1 hj).1
    simpa [Lib.strCells] using this
  have ha : (⟨W.heap.size, 0, none⟩ : Addr).add j = ⟨W.heap.size, 0 + j, none⟩ := by unfold Addr.add; split <;> simp_all
  rw [ha, Nat.zero_add, Lib.cell_of_heap (heap_alloc_new W _)]
  rw [← hj]
  unfold bytesRow
  rw [Array.getElem?_append_left (by simpa using hj')]
  simp [Lib.strCells]
abbrev RowS (B : Nat) (v : Value) (xs : List Bs) (w : World) : Prop := w.ownsRow B 9 1 v xs.length (cellsS xs)
theorem str_new (w : World) (x : Value) (e : TypeId) : ∀ j u, [x][j]? = some u → (w.alloc (.cells #[x] e)).cell? ((⟨w.heap.size, 0, none⟩ : Addr).add j) = some u := byte_new w x e
theorem rowS_nil (w : World) (B : Nat) : RowS B (.slice none 0 0) [] w := World.ownsRow_nil _ _ _ _

theorem lens_app (a b : List Bs) : Lib.lens (a ++ b) = Lib.lens a + Lib.lens b := by
  induction a with
  | nil => simp [Lib.lens]
  | cons x a ih => simp [Lib.lens]; omega
theorem lens_take (l : List Bs) (k : Nat) : Lib.lens (l.take k) + (l.take k).length ≤ Lib.lens l + l.length := by
  have h1 := lens_app (l.take k) (l.drop k)
  rw [List.take_append_drop] at h1
  have h2 : (l.take k).length ≤ l.length := by simp; omega
  omega
theorem jn_take (p : Nat → Bool) (sep : UInt8) (s : Bs) (k : Nat) : (jn sep (pick p 0 ((fcut sep s).take k))).length ≤ s.length + 1 := by
  have h1 := jn_len sep (pick p 0 ((fcut sep s).take k))
  have h2 := (fcut_sum sep s).1
  have h3 := pick_len p ((fcut sep s).take k) 0
  have h4 := lens_pick p ((fcut sep s).take k) (fun k l => pick p k l) (fun k => rfl) (fun k x r => by simp only [pick]) 0
  have h5 := lens_take (fcut sep s) k
  omega
theorem pick_takeS (p : Nat → Bool) (l : List Bs) (k : Nat) (h : k < l.length) : pick p 0 (l.take (k + 1)) = pick p 0 (l.take k) ++ if p (k + 1) then [l[k]] else [] := by
  rw [List.take_succ_eq_append_getElem h, pick_snoc, List.length_take, Nat.min_eq_left (by omega)]

set_option maxRecDepth 100000 in
set_option maxHeartbeats 1000000 in
theorem rfields_any (s : ByteArray) (a : Option Addr) (n cap c' : Nat) (rs : List R) (sep : UInt8) (bare : Bool) (w : World) (h : Rg w a n c' rs) (hn : n ≤ 4611686018427387904) (hs : s.size ≤ 1073741823) :
    Calls Try.prog 12 #[.string s, .slice a n cap, .int .u8 sep.toNat, .bool bare] w fun e w' => e = .returned (faAns s rs sep bare) ∧ Below w.heap.size w w' := by
  obtain ⟨i0, hi, hz0, hz1, hz2⟩ := info_parts Try.infoByte
  obtain ⟨i1, hi1, hy0, hy1, hy2⟩ := info_parts Try.infoStr
  have HR := hide h
  clear h
  have hfl : (fcut sep (bs s)).length ≤ s.size + 1 := by have := (fcut_sum sep (bs s)).1; rw [bs_len] at this; omega
  go_enter Try.func12, Try.ntmps12
  go_wp2_with fail
  go_loopw [10, 11, 12] (fun u f i wr => ∃ (k : Nat) (pre : List Bs), i = .int .i64 k ∧ k ≤ s.size + 1 ∧ Hid (RowS w.heap.size u pre wr) ∧ Hid (Below w.heap.size w wr) ∧ (∃ j : Nat, f = .int .i64 j) ∧
      ((k = s.size + 1 ∧ Hid (pre = fcut sep (bs s))) ∨ (k ≤ s.size ∧ ∃ j : Nat, f = .int .i64 j ∧ j ≤ k ∧ Hid (fcut sep (bs s) = pre ++ fcut sep ((bs s).drop j)) ∧ Hid (∀ c ∈ ((bs s).drop j).take (k - j), c ≠ sep)))) (fun _ _ i _ => s.size + 1 - (intOf i).toNat)
  case atStart => exact ⟨0, [], rfl, by omega, rowS_nil _ _, Below.refl _ _, ⟨0, rfl⟩, .inr ⟨by omega, 0, rfl, Nat.le_refl _, rfl, (fun c hc => by simp at hc)⟩⟩
  case round =>
    obtain ⟨k, pre, rfl, hk, hrow, hbl, ⟨j0, hj0⟩, hor⟩ := hrel
    have hsz := (unhide hbl).size
    rcases hor with ⟨rfl, hpre⟩ | ⟨hk, j, rfl, hjk, hcut, hcl⟩
    · have hgt : ¬ ((s.size : Int) + 1) ≤ (s.size : Int) := by omega
      have hpe := unhide hpre
      subst hpe
      subst hj0
      clear hpre
      obtain ⟨pr, hpr⟩ : ∃ pr, pr = fcut sep (bs s) := ⟨_, rfl⟩
      rw [← hpr] at hrow hfl
      by_cases hm : sep ∈ bs s
      · have ha : Hid (faAns s rs sep bare = .tuple #[.string (bt (jn sep (pick (inL rs) 0 pr))), .bool true]) := by rw [hpr]; simp [faAns, hm, Hid, fpick]
        have hp2 : 2 ≤ pr.length := by rw [hpr]; exact fcut_one sep (bs s) hm
        have hjl : ∀ k, (jn sep (pick (inL rs) 0 (pr.take k))).length ≤ s.size + 1 := fun k => by have := jn_take (inL rs) sep (bs s) k; rwa [← hpr, bs_len] at this
        have HJL := hide hjl
        have hp1 : ((pr.length : Int) == 1) = false := by simp; omega
        obtain ⟨g, gc, hv⟩ : ∃ g c, u10 = .slice (some ⟨g, 0, none⟩) pr.length c := by
          rcases (unhide hrow).2 with ⟨_, h0⟩ | ⟨g, cap, cur, h0, _⟩
          · omega
          · exact ⟨g, cap, h0⟩
        subst hv
        clear hm hpr hjl
        go_wp2_with fail
        have hcell : Hid (∀ (k : Nat) (hk : k < pr.length) (W : World), Below wr.heap.size wr W → W.cell? ⟨g, k, none⟩ = some (.string (bt pr[k]))) := fun k hk W hW => by
          have h1 := (unhide hrow).cells (g := g) rfl k (.string (bt pr[k])) (by simp [cellsS, List.getElem?_eq_getElem hk])
          have ha : (⟨g, 0, none⟩ : Addr).add k = ⟨g, k, none⟩ := by unfold Addr.add; split <;> simp_all
          rw [ha] at h1
          exact (hW.cell (((unhide hrow).lt g rfl).2)).trans h1
        have hbw := hbl
        have hb0 : wr.heap.size ≤ wr.heap.size := Nat.le_refl _
        obtain ⟨W0, hW0⟩ : ∃ W0, W0 = wr := ⟨_, rfl⟩
        rw [← hW0] at hcell hbw hsz ⊢
        clear hW0 hrow hbl hb0
        go_loopw [13, 14, 15] (fun u t i wr => ∃ k : Nat, k ≤ pr.length ∧ i = .int .i64 k ∧ t = .bool (!(pick (inL rs) 0 (pr.take k)).isEmpty) ∧ Hid (Row W0.heap.size u (jn sep (pick (inL rs) 0 (pr.take k))) wr) ∧ Hid (Below W0.heap.size W0 wr)) (fun _ _ i _ => pr.length - (intOf i).toNat)
        case atStart => exact ⟨0, by omega, rfl, by rw [List.take_zero]; rfl, by rw [List.take_zero]; exact row_nil _ _, Below.refl _ _⟩
        case round =>
          obtain ⟨k, hkl, rfl, rfl, hrow, hbl⟩ := hrel
          have hszb := (unhide hbl).size
          have hBw2 : Hid (Below w.heap.size w wr) := (unhide hbw).trans ((unhide hbl).mono hsz)
          by_cases hlt : k < pr.length
          · have hlt' : (k : Int) < (pr.length : Int) := by omega
            have hcast : ((k + 1 : Nat) : Int) = (k : Int) + 1 := by omega
            have H := hide (Ls.rhas_any a n cap c' rs ((k + 1 : Nat) : Int) wr ((unhide HR).below (unhide hBw2)) hn)
            rw [hcast] at H
            have hIn : Hid (has rs ((k : Int) + 1) = inL rs (k + 1)) := by rw [← hcast]; exact rfl
            rw [unhide hIn] at H
            clear hcast
            have hpt := hide (pick_takeS (inL rs) pr k hlt)
            have hjb := unhide HJL k
            have hjb2 := unhide HJL (k + 1)
            obtain ⟨x, hx⟩ : ∃ x, x = pr[k] := ⟨_, rfl⟩
            rw [← hx] at hpt
            have hcx := unhide hcell k hlt
            rw [← hx] at hcx
            have HCX := hide hcx
            clear hcx hx
            obtain ⟨L, hL⟩ : ∃ L, L = pick (inL rs) 0 (pr.take k) := ⟨_, rfl⟩
            rw [← hL] at hrow hpt hjb ⊢
            clear hL
            go_wp2_with fail
            refine (unhide H).mono ?_
            rintro e w2 ⟨rfl, rfl⟩
            clear H
            cases hb : inL rs (k + 1)
            · rw [hb] at hpt
              have hpt2 : Hid (pick (inL rs) 0 (pr.take (k + 1)) = L) := by rw [unhide hpt]; simp [Hid]
              clear hb hpt
              go_wp2_with fail
              go_roundw
              case rel => exact ⟨k + 1, by omega, by go_num, by rw [unhide hpt2], by rw [unhide hpt2]; exact hrow, hbl⟩
              case measure => simp [intOf]; omega
            · rw [hb] at hpt
              have hpt2 : Hid (pick (inL rs) 0 (pr.take (k + 1)) = L ++ [x]) := by rw [unhide hpt]; simp [Hid]
              rw [unhide hpt2] at hjb2
              clear hb hpt
              have hjs := jn_snoc sep L x
              rw [hjs] at hjb2
              have HJS := hide hjs
              clear hjs
              have hbx : (bt x).size = x.length := by simp [bt, ByteArray.size]
              cases hLe : L with
              | nil =>
                subst hLe
                have HJ2 : Hid (jn sep ([] ++ [x]) = [] ++ x) := by rw [unhide HJS]; simp [Hid]
                simp at hjb2
                have hcx := unhide HCX w2 (unhide hbl)
                obtain ⟨c, o, hcv, hnews⟩ := cv_to (bt x) w2
                clear HJS
                go_wp2_with (at_builtin; refine wpList_append_own _ rfl _ _ 39 rfl W0.heap.size 5 i0 (.int .u8 0) 1 1 Try.underlying39 hi hz0 hz1 hz2 rfl (by decide) _ _ _ rfl ((unhide hrow).alloc o) ⟨w2.heap.size, 0, none⟩ (bt x).size c (Lib.strCells (bt x)) rfl (by rw [Lib.strCells_length]; omega) hnews (Lib.strCells_oneCell (bt x)) (by unfold maxLen; omega) (by omega) (by simp; omega) ?_)
                intro v4 w4 hO4 hg4 _
                have hB5 : Hid (Below W0.heap.size W0 w4) := ((unhide hbl).alloc hszb o).drew.grown hg4 (by simp; omega) (fun j ej => ((unhide hrow).lt j ej).1)
                have hO5 : Hid (Row W0.heap.size v4 (jn sep (pick (inL rs) 0 (pr.take (k + 1)))) w4) := by
                  show w4.ownsRow _ _ _ _ _ _
                  rw [unhide hpt2, unhide HJ2, Lib.byteCells_append, List.length_append, ← hbx]
                  rw [show Lib.byteCells x = Lib.strCells (bt x) by rw [Lib.strCells_eq]; simp [bt, Lib.byteCells]]
                  exact hO4
                have hte : (!(pick (inL rs) 0 (pr.take (k + 1))).isEmpty) = true := by rw [unhide hpt2]; rfl
                have HTE := hide hte
                clear hO4 hg4 hcv hnews hcx hrow hbl hte
                go_wp2_with fail
                go_roundw
                case rel => exact ⟨k + 1, by omega, by go_num, by rw [unhide HTE], hO5, hB5⟩
                case measure => simp [intOf]; omega
              | cons y L' =>
                have hLn : L ≠ [] := by rw [hLe]; simp
                have hLi : (!L.isEmpty) = true := by rw [hLe]; rfl
                rw [← hLe, hLi]
                have HJ2 : Hid (jn sep (L ++ [x]) = jn sep L ++ [sep] ++ x) := by rw [unhide HJS, if_neg hLn]; exact rfl
                rw [if_neg hLn] at hjb2
                simp at hjb2
                have hbound : (jn sep L).length + 1 + x.length ≤ s.size + 1 := by omega
                clear HJS hjb2 hLe hLi hLn
                go_wp2_with (at_builtin; refine wpList_append_own _ rfl _ _ 39 rfl W0.heap.size 5 i0 (.int .u8 0) 1 1 Try.underlying39 hi hz0 hz1 hz2 rfl (by decide) _ _ _ rfl ((unhide hrow).alloc _) ⟨w2.heap.size, 0, none⟩ 1 1 [.int .u8 sep.toNat] rfl rfl (byte_new _ _ _) (byte_one _) (by unfold maxLen; omega) (by omega) (by simp; omega) ?_)
                intro v3 w3 hO3 hg3 _
                have hB3 : Hid (Below W0.heap.size W0 w3) := ((unhide hbl).alloc hszb _).grown hg3 (by simp; omega) (fun j ej => ((unhide hrow).lt j ej).1)
                have hsz3 := (unhide hB3).size
                have hR3 : Hid (Row W0.heap.size v3 (jn sep L ++ [sep]) w3) := row_snoc hO3 rfl
                have hcx := unhide HCX w3 (unhide hB3)
                clear hO3 hg3 hrow hbl
                obtain ⟨c, o, hcv, hnews⟩ := cv_to (bt x) w3
                have hl3 : (jn sep L ++ [sep]).length = (jn sep L).length + 1 := by simp
                go_wp2_with (at_builtin; refine wpList_append_own _ rfl _ _ 39 rfl W0.heap.size 5 i0 (.int .u8 0) 1 1 Try.underlying39 hi hz0 hz1 hz2 rfl (by decide) _ _ _ rfl ((unhide hR3).alloc o) ⟨w3.heap.size, 0, none⟩ (bt x).size c (Lib.strCells (bt x)) rfl (by rw [Lib.strCells_length]; omega) hnews (Lib.strCells_oneCell (bt x)) (by unfold maxLen; omega) (by omega) (by simp; omega) ?_)
                intro v4 w4 hO4 hg4 _
                have hB5 : Hid (Below W0.heap.size W0 w4) := ((unhide hB3).alloc hsz3 o).drew.grown hg4 (by simp; omega) (fun j ej => ((unhide hR3).lt j ej).1)
                have hO5 : Hid (Row W0.heap.size v4 (jn sep (pick (inL rs) 0 (pr.take (k + 1)))) w4) := by
                  show w4.ownsRow _ _ _ _ _ _
                  rw [unhide hpt2, unhide HJ2, Lib.byteCells_append, List.length_append, ← hbx]
                  rw [show Lib.byteCells x = Lib.strCells (bt x) by rw [Lib.strCells_eq]; simp [bt, Lib.byteCells]]
                  rw [hl3, hbx]
                  exact hO4
                have hte : (!(pick (inL rs) 0 (pr.take (k + 1))).isEmpty) = true := by rw [unhide hpt2]; cases L <;> rfl
                have HTE := hide hte
                clear hO4 hg4 hcv hnews hcx hR3 hB3 hte
                go_wp2_with fail
                go_roundw
                case rel => exact ⟨k + 1, by omega, by go_num, by rw [unhide HTE], hO5, hB5⟩
                case measure => simp [intOf]; omega
          · obtain rfl : k = pr.length := by omega
            have hx : pr.take pr.length = pr := List.take_length
            rw [hx] at hrow ⊢
            have hcv := cv_back (W := wr) _ (unhide hrow)
            go_wp2_with fail
            go_ret2
            exact ⟨by rw [unhide ha]; rfl, unhide hBw2⟩
      · have hp1 : pr.length = 1 := by rw [hpr, fcut_clean sep (bs s) (fun c hc e => hm (e ▸ hc))]; rfl
        have hp1' : ((pr.length : Int) == 1) = true := by simp; omega
        obtain ⟨ga, gc, hv⟩ : ∃ a c, u10 = .slice a pr.length c := by
          rcases (unhide hrow).2 with ⟨h0, h1⟩ | ⟨g, cap, cur, h0, _⟩
          · exact ⟨none, 0, by rw [h0, h1]⟩
          · exact ⟨_, _, h0⟩
        subst hv
        rw [hp1]
        cases bare
        · have ha : Hid (faAns s rs sep false = .tuple #[.string s, .bool true]) := by simp [faAns, hm, Hid]
          clear hm hpr hp1
          go_wp2_with fail
          go_ret2
          exact ⟨by rw [unhide ha]; rfl, unhide hbl⟩
        · have ha : Hid (faAns s rs sep true = .tuple #[noText, .bool false]) := by simp [faAns, hm, Hid]
          clear hm hpr hp1
          go_wp2_with fail
          go_ret2
          exact ⟨by rw [unhide ha]; rfl, unhide hbl⟩
    · have hkc : (k : Int) ≤ (s.size : Int) := by omega
      have hpl : pre.length ≤ s.size + 1 := by
        have := congrArg List.length (unhide hcut)
        rw [List.length_append] at this; omega
      clear hj0
      by_cases hlt : k < s.size
      · have hll : k < (bs s).length := by rw [bs_len]; exact hlt
        have hne : ((k : Int) == (s.size : Int)) = false := by simp; omega
        by_cases hp : s[k] = sep
        · have hx := hide (fcut_go (unhide hcut) hjk hll (unhide hcl) hp)
          have e1 : ((s[k].toNat : Int) == (sep.toNat : Int)) = true := by rw [hp]; simp
          clear hp hcut hcl
          go_wp2_with (at_builtin; refine wpList_append_own _ rfl _ _ 49 rfl w.heap.size 9 i1 _ 1 16 Try.underlying49 hi1 hy0 hy1 hy2 rfl (by decide) _ _ _ rfl ((unhide hrow).alloc _) ⟨wr.heap.size, 0, none⟩ 1 1 [.string (s.extract j k)] rfl rfl (byte_new _ _ _) (by simp [Value.oneCell']) (by unfold maxLen; omega) (by omega) (by simp; omega) ?_; intro v' w9 hown9 hg9 hnil9)
          have hn' : Hid (RowS w.heap.size v' (pre ++ [((bs s).drop j).take (k - j)]) w9) := by
            rw [bt_extract] at hown9; unfold RowS; rw [cellsS_snoc, List.length_append]; exact hown9
          have hB9 : Hid (Below w.heap.size w w9) := (unhide hbl).grown (grown_alloc hg9) hsz (fun i hi => ((unhide hrow).lt i hi).1)
          clear hown9 hg9 hnil9
          go_roundw
          case rel => exact ⟨k + 1, _, by go_num, by omega, hn', hB9, ⟨k + 1, by go_num⟩, .inr ⟨by omega, k + 1, by go_num, Nat.le_refl _, hx, (fun c hc => by simp at hc)⟩⟩
          case measure => simp [intOf]; omega
        · have e1 : ((s[k].toNat : Int) == (sep.toNat : Int)) = false := by simp; intro e; exact hp (UInt8.toNat_inj.1 (by omega))
          have hcl2 : Hid (∀ c ∈ ((bs s).drop j).take (k + 1 - j), c ≠ sep) := take_more hjk hll (unhide hcl) hp
          clear hp hcl
          go_wp2_with fail
          go_roundw
          case rel => exact ⟨k + 1, pre, by go_num, by omega, hrow, hbl, ⟨j, rfl⟩, .inr ⟨by omega, j, rfl, by omega, hcut, hcl2⟩⟩
          case measure => simp [intOf]; omega
      · obtain rfl : k = s.size := by omega
        have hx : Hid (pre ++ [((bs s).drop j).take (s.size - j)] = fcut sep (bs s)) := by
          have := fcut_end (unhide hcut) (by rw [bs_len]; exact unhide hcl)
          rw [this, List.take_of_length_le (by rw [List.length_drop, bs_len]; exact Nat.le_refl _)]; exact rfl
        clear hcut hcl
        go_wp2_with (at_builtin; refine wpList_append_own _ rfl _ _ 49 rfl w.heap.size 9 i1 _ 1 16 Try.underlying49 hi1 hy0 hy1 hy2 rfl (by decide) _ _ _ rfl ((unhide hrow).alloc _) ⟨wr.heap.size, 0, none⟩ 1 1 [.string (s.extract j s.size)] rfl rfl (byte_new _ _ _) (by simp [Value.oneCell']) (by unfold maxLen; omega) (by omega) (by simp; omega) ?_; intro v' w9 hown9 hg9 hnil9)
        have hn' : Hid (RowS w.heap.size v' (pre ++ [((bs s).drop j).take (s.size - j)]) w9) := by
          rw [bt_extract] at hown9; unfold RowS; rw [cellsS_snoc, List.length_append]; exact hown9
        have hB9 : Hid (Below w.heap.size w w9) := (unhide hbl).grown (grown_alloc hg9) hsz (fun i hi => ((unhide hrow).lt i hi).1)
        clear hown9 hg9 hnil9
        go_roundw
        case rel => exact ⟨s.size + 1, _, by go_num, by omega, hn', hB9, ⟨s.size + 1, by go_num⟩, .inl ⟨rfl, hx⟩⟩
        case measure => simp [intOf]
end Go.Proofs.Ytpfdjnnnemkoiaa.Cu
