import Derived.Test.YthmoinagfooncaaGreatDoorPtStrW
import Derived.Test.YthmoinagfooncaaGreatDoorPtTurn
/- The document's Base, Dir and Join. -/
namespace Go.Proofs.YthmoinagfooncaaGreatDoor.Pt
open Go.RowKit Go.Proofs.YthmoinagfooncaaGreatDoor.Cu

theorem last_at (s : ByteArray) (hk : s.size - 1 < s.size) : ((s[s.size - 1].toNat : Int) == 47) = ends s := by
  have e := Lib.data_getElem? s (s.size - 1) hk
  unfold ends
  have hl : (bs s).length = s.size := rfl
  rw [List.getLast?_eq_getElem?, hl]
  unfold bs
  rw [e, Bool.eq_iff_iff]
  simp only [beq_iff_eq, decide_eq_true_eq, Option.some.injEq]
  exact ⟨fun h => UInt8.toNat_inj.1 (by show _ = 47; omega), fun h => by rw [h]; rfl⟩
set_option maxRecDepth 100000 in
set_option maxHeartbeats 400000 in
theorem rslash_any (s : ByteArray) (w : World) (hs : s.size ≤ 1000000000) : Calls Tryz.prog 40 #[.string s] w fun e w' => e = .returned (.bool (ends s)) ∧ w' = w := by
  by_cases h0 : s.size = 0
  · have hv : ends s = false := by simp [ends, none_of h0]
    have hq := (s_beq s).trans (decide_eq_true (none_of h0))
    have hq2 : (s.toList != []) = false := by simp [bne, hq]
    rw [hv]
    clear hv h0
    go_enter Tryz.func40, Tryz.ntmps40
    go_wp2_with fail
    go_ret
    exact ⟨rfl, rfl⟩
  · have hq := (s_beq s).trans (decide_eq_false (fun e => h0 (by have := congrArg List.length e; exact this)))
    have hq2 : (s.toList != []) = true := by simp [bne, hq]
    have hk : s.size - 1 < s.size := by omega
    have HE := hide (last_at s hk)
    obtain ⟨k, hk1⟩ : ∃ k, k = s.size - 1 := ⟨_, rfl⟩
    have hk2 : (s.size : Int) - 1 = (k : Int) := by omega
    have HE2 : Hid (∀ h : k < s.size, ((s[k].toNat : Int) == 47) = ends s) := by subst hk1; exact fun _ => unhide HE
    have hk3 : k < s.size := by omega
    clear hk1 HE
    go_enter Tryz.func40, Tryz.ntmps40
    go_wp2_with fail
    go_ret
    exact ⟨ret_b (unhide HE2 hk3), rfl⟩
theorem bare_step (s : ByteArray) (h : ends s = true) (k : Nat) (hk : (s.size : Int) - 1 = (k : Int)) : bareB (bs (s.extract 0 k)) = bareB (bs s) ∧ (s.extract 0 k).size = k ∧ 0 < s.size := by
  unfold ends at h
  simp only [decide_eq_true_eq] at h
  have hl : (bs s).length = s.size := rfl
  have hn : bs s ≠ [] := fun e => by rw [e] at h; cases h
  have hp : 0 < s.size := by rw [← hl]; exact List.length_pos_iff.2 hn
  have e1 : bs (s.extract 0 k) = (bs s).take k := by rw [ext_tx, bs_tx]; simp
  have e2 : (bs s).take k ++ [47] = bs s := by
    have := List.dropLast_concat_getLast hn
    rw [List.dropLast_eq_take, hl, show s.size - 1 = k by omega] at this
    rw [List.getLast?_eq_some_getLast hn] at h
    rw [Option.some.inj h] at this
    exact this
  refine ⟨by rw [e1, ← bare_snoc, e2], ?_, hp⟩
  have : (bs (s.extract 0 k)).length = k := by rw [e1, List.length_take, hl]; omega
  exact this
theorem drop_one (l : Bs) (i : Nat) (h : i < l.length) : l.take (i + 1) = l.take i ++ [l.getD i 0] := by
  rw [List.take_add_one, List.getElem?_eq_getElem h]
  simp [List.getD, List.getElem?_eq_getElem h]
theorem first_is (s : ByteArray) (h : 0 < s.size) : ((s[0].toNat : Int) == 47) = decide ((bs s).head? = some 47) := by
  have e := Lib.data_getElem? s 0 h
  have e2 : (bs s).head? = some s[0] := by rw [List.head?_eq_getElem?]; exact e
  rw [e2, Bool.eq_iff_iff]
  simp only [beq_iff_eq, decide_eq_true_eq, Option.some.injEq]
  exact ⟨fun h => UInt8.toNat_inj.1 (by show _ = 47; omega), fun h => by rw [h]; rfl⟩
end Go.Proofs.YthmoinagfooncaaGreatDoor.Pt

/- The document's parts of a path, and whether it may be. -/
namespace Go.Proofs.YthmoinagfooncaaGreatDoor.Pt
open Go.RowKit Go.Proofs.YthmoinagfooncaaGreatDoor.Cu Go.Proofs.YthmoinagfooncaaGreatDoor.Tr

theorem prt_at (c : Bs) (x : UInt8) (s : Bs) : prt c (x :: s) = if x = 47 then (if c = [] then prt [] s else tx c :: prt [] s) else prt (c ++ [x]) s := rfl
theorem prt_nil (c : Bs) : prt c [] = if c = [] then [] else [tx c] := rfl
def cut (s : ByteArray) (fr i : Nat) : Bs := ((bs s).drop fr).take (i - fr)
theorem cut_self (s : ByteArray) (i : Nat) : cut s i i = [] := by simp [cut]
theorem cut_ne (s : ByteArray) {fr i : Nat} (h : fr < i) (hi : i ≤ s.size) : cut s fr i ≠ [] := by
  intro e
  have := congrArg List.length e
  have hl : (bs s).length = s.size := rfl
  simp only [cut, List.length_take, List.length_drop, hl, List.length_nil] at this
  omega
theorem cut_snoc (s : ByteArray) {fr i : Nat} (h : fr ≤ i) (hi : i < s.size) : cut s fr (i + 1) = cut s fr i ++ [(bs s).getD i 0] := by
  have hl : (bs s).length = s.size := rfl
  unfold cut
  rw [show i + 1 - fr = (i - fr) + 1 by omega, List.take_add_one, List.getElem?_drop, show fr + (i - fr) = i by omega, List.getElem?_eq_getElem (show i < (bs s).length by omega)]
  simp [List.getD, List.getElem?_eq_getElem (show i < (bs s).length by omega)]
/-- how far a path is parted -/
def Pin (s : ByteArray) (A : List ByteArray) (fr i : Nat) : Prop := (i ≤ s.size ∧ fr ≤ i ∧ partsP s = A ++ prt (cut s fr i) ((bs s).drop i)) ∨ (i = s.size + 1 ∧ partsP s = A)
theorem pin_on {s : ByteArray} {A : List ByteArray} {fr i : Nat} (h : Pin s A fr i) (hi : i < s.size) (hx : (bs s).getD i 0 ≠ 47) : Pin s A fr (i + 1) := by
  rcases h with ⟨h1, h2, h3⟩ | ⟨h1, _⟩
  · refine .inl ⟨by omega, by omega, ?_⟩
    rw [h3, drop_at (bs s) i hi, prt_at, if_neg hx, cut_snoc s h2 hi]
  · omega
theorem pin_end {s : ByteArray} {A : List ByteArray} {fr i : Nat} (h : Pin s A fr i) (hi : i ≤ s.size) (hx : i = s.size ∨ (bs s).getD i 0 = 47) : Pin s (if fr < i then A ++ [s.extract fr i] else A) (i + 1) (i + 1) := by
  have hl : (bs s).length = s.size := rfl
  rcases h with ⟨h1, h2, h3⟩ | ⟨h1, _⟩
  · by_cases hs : i = s.size
    · refine .inr ⟨by omega, ?_⟩
      rw [h3, List.drop_of_length_le (by omega), prt_nil]
      by_cases hf : fr < i
      · rw [if_pos hf, if_neg (cut_ne s hf h1), ext_tx]; rfl
      · have : fr = i := by omega
        rw [if_neg hf, this, cut_self, if_pos rfl, List.append_nil]
    · have hx := hx.resolve_left hs
      refine .inl ⟨by omega, Nat.le_refl _, ?_⟩
      rw [h3, drop_at (bs s) i (by omega), prt_at, if_pos hx, cut_self]
      by_cases hf : fr < i
      · rw [if_pos hf, if_neg (cut_ne s hf h1), ext_tx, List.append_assoc]; rfl
      · have : fr = i := by omega
        rw [if_neg hf, this, cut_self, if_pos rfl]
  · omega
theorem pin_len {s : ByteArray} {A : List ByteArray} {fr i : Nat} (h : Pin s A fr i) : A.length ≤ s.size + 1 := by
  have := parts_len s
  rcases h with ⟨_, _, h3⟩ | ⟨_, h3⟩
  · rw [h3, List.length_append] at this; omega
  · rw [h3] at this; exact this
theorem lit_str (w : World) (x : ByteArray) : ∀ j u, ([.string x] : List Value)[j]? = some u → (w.alloc (.cells #[.string x] tyStr)).cell? ((⟨w.heap.size, 0, none⟩ : Addr).add j) = some u := fun j u hj => by
  rw [addN, cell_of_row _ _ _ _ _ _ (heap_alloc_new w _), Nat.zero_add]
  show ([.string x] : List Value).toArray[j]? = some u
  rw [List.getElem?_toArray]; exact hj
theorem own_shp {w : World} {base : Nat} {e : TypeId} {s : Nat} {v : Value} {n : Nat} {xs : List Value} (h : w.ownsRow base e s v n xs) : ∃ a cap, v = .slice a n cap := by
  rcases h.2 with ⟨rfl, rfl⟩ | ⟨g, cap, cur, rfl, _⟩
  · exact ⟨none, 0, rfl⟩
  · exact ⟨_, _, rfl⟩
theorem own_app {w : World} {base : Nat} {va : Option Addr} {vc : Nat} {A : List ByteArray} {x : ByteArray} (h : w.ownsRow base tyStr 1 (.slice va (A.length + 1) vc) (A.length + 1) (A.map Value.string ++ [.string x])) : w.ownsRow base tyStr 1 (.slice va (A ++ [x]).length vc) (A ++ [x]).length ((A ++ [x]).map Value.string) := by
  rw [List.length_append, List.map_append]; exact h
theorem own_lt {w : World} {base : Nat} {e : TypeId} {s : Nat} {v : Value} {n : Nat} {xs : List Value} (h : w.ownsRow base e s v n xs) : ∀ k, v.ownBlock = some k → base ≤ k := fun k hk => (h.lt k hk).1
set_option maxRecDepth 100000 in
set_option maxHeartbeats 1000000 in
theorem rparts_any (s : ByteArray) (w : World) (hs : s.size ≤ 1000000) : Calls Tryz.prog 39 #[.string s] w fun e w' => ∃ pa pc, e = .returned (.slice pa (partsP s).length pc) ∧
      w'.ownsRow w.heap.size tyStr 1 (.slice pa (partsP s).length pc) (partsP s).length ((partsP s).map Value.string) ∧ Below w.heap.size w w' := by
  obtain ⟨i1, hi1, hy0, hy1, hy2⟩ := info_parts Tryz.infoStr
  have HQ : Hid (∀ j (h : j < s.size), s[j].toNat = ((bs s).getD j 0).toNat) := fun j h => by
    have e := Lib.data_getElem? s j h
    simp [bs, List.getD, e]
  have HP0 : Hid (Pin s [] 0 0) := .inl ⟨Nat.zero_le _, Nat.le_refl _, by simp [cut, partsP]⟩
  go_enter Tryz.func39, Tryz.ntmps39
  go_wp2_with fail
  go_loopw [3, 4, 5] (fun l f x wr => ∃ (A : List ByteArray) (va : Option Addr) (vc fr i : Nat), fr ≤ i ∧ i ≤ s.size + 1 ∧ l = .slice va A.length vc ∧ f = .int .i64 fr ∧ x = .int .i64 i ∧ Hid (wr.ownsRow w.heap.size tyStr 1 (.slice va A.length vc) A.length (A.map Value.string)) ∧ Hid (Below w.heap.size w wr) ∧ Hid (Pin s A fr i)) (fun _ _ x _ => s.size + 1 - (intOf x).toNat)
  case atStart => exact ⟨[], none, 0, 0, 0, Nat.le_refl _, by omega, rfl, rfl, rfl, ⟨rfl, .inl ⟨rfl, rfl⟩⟩, Below.refl _ _, HP0⟩
  case round =>
    clear HP0
    obtain ⟨A, va, vc, fr, i, hfi, hi, rfl, rfl, rfl, HO, HB, HP⟩ := hrel
    have hAl := pin_len (unhide HP)
    by_cases h1 : i ≤ s.size
    · have h1' : (i : Int) ≤ (s.size : Int) := by omega
      by_cases hx : i < s.size ∧ (bs s).getD i 0 ≠ 47
      · obtain ⟨h2, h3⟩ := hx
        have h2' : (i : Int) < (s.size : Int) := by omega
        have hc : ¬ (s[i].toNat : Int) = 47 := by
          rw [unhide HQ i h2]
          exact fun e => h3 (UInt8.toNat_inj.1 (by show _ = 47; omega))
        have hc2 : ((s[i].toNat : Int) != 47) = true := by simpa using hc
        have HP2 := hide (pin_on (unhide HP) h2 h3)
        clear HP h3
        go_wp2_with fail
        go_roundw
        case rel => exact ⟨A, va, vc, fr, i + 1, by omega, by omega, rfl, rfl, by go_num, HO, HB, HP2⟩
        case measure => simp [intOf]; omega
      · have hx' : i = s.size ∨ (bs s).getD i 0 = 47 := by
          by_cases e : i = s.size
          · exact .inl e
          · exact .inr (Decidable.byContradiction fun h => hx ⟨by omega, h⟩)
        have HP2 := hide (pin_end (unhide HP) h1 hx')
        clear HP hx
        by_cases es : i = s.size
        · have e1 : ¬ (i : Int) < (s.size : Int) := by omega
          clear es hx'
          by_cases hf : fr < i
          · have hf' : (fr : Int) < (i : Int) := by omega
            rw [if_pos hf] at HP2
            have hsz : w.heap.size ≤ wr.heap.size := (unhide HB).size
            go_wp2_with (at_builtin; refine wpList_append_own _ rfl _ _ 56 rfl w.heap.size tyStr i1 _ 1 16 Tryz.underlying56 hi1 hy0 hy1 hy2 rfl (by decide) _ _ _ rfl ((unhide HO).alloc _) ⟨wr.heap.size, 0, none⟩ 1 1 [.string (s.extract fr i)] rfl rfl (lit_str wr (s.extract fr i)) (by intro u hu; simp at hu; subst hu; rfl) (by unfold maxLen; omega) (by omega) (by simp; omega) ?_; intro v' w' o1 g1 _; obtain ⟨va', vc', rfl⟩ := own_shp o1; have HO2 := hide (own_app o1); have HB2 := hide (((unhide HB).alloc hsz _).grown g1 (by simp; omega) (fun k hk => own_lt (unhide HO) k hk)); clear o1 g1)
            go_roundw
            case rel => exact ⟨A ++ [s.extract fr i], va', vc', i + 1, i + 1, Nat.le_refl _, by omega, by simp, by go_num, by go_num, HO2, HB2, HP2⟩
            case measure => simp [intOf]; omega
          · have hf' : ¬ (fr : Int) < (i : Int) := by omega
            rw [if_neg hf] at HP2
            go_wp2_with fail
            go_roundw
            case rel => exact ⟨A, va, vc, i + 1, i + 1, Nat.le_refl _, by omega, rfl, by go_num, by go_num, HO, HB, HP2⟩
            case measure => simp [intOf]; omega
        · have h2 : i < s.size := by omega
          have h2' : (i : Int) < (s.size : Int) := by omega
          have hc : (s[i].toNat : Int) = 47 := by rw [unhide HQ i h2, hx'.resolve_left es]; rfl
          have hc2 : ((s[i].toNat : Int) != 47) = false := by rw [hc]; rfl
          clear hx' es
          by_cases hf : fr < i
          · have hf' : (fr : Int) < (i : Int) := by omega
            rw [if_pos hf] at HP2
            have hsz : w.heap.size ≤ wr.heap.size := (unhide HB).size
            go_wp2_with (at_builtin; refine wpList_append_own _ rfl _ _ 56 rfl w.heap.size tyStr i1 _ 1 16 Tryz.underlying56 hi1 hy0 hy1 hy2 rfl (by decide) _ _ _ rfl ((unhide HO).alloc _) ⟨wr.heap.size, 0, none⟩ 1 1 [.string (s.extract fr i)] rfl rfl (lit_str wr (s.extract fr i)) (by intro u hu; simp at hu; subst hu; rfl) (by unfold maxLen; omega) (by omega) (by simp; omega) ?_; intro v' w' o1 g1 _; obtain ⟨va', vc', rfl⟩ := own_shp o1; have HO2 := hide (own_app o1); have HB2 := hide (((unhide HB).alloc hsz _).grown g1 (by simp; omega) (fun k hk => own_lt (unhide HO) k hk)); clear o1 g1)
            go_roundw
            case rel => exact ⟨A ++ [s.extract fr i], va', vc', i + 1, i + 1, Nat.le_refl _, by omega, by simp, by go_num, by go_num, HO2, HB2, HP2⟩
            case measure => simp [intOf]; omega
          · have hf' : ¬ (fr : Int) < (i : Int) := by omega
            rw [if_neg hf] at HP2
            go_wp2_with fail
            go_roundw
            case rel => exact ⟨A, va, vc, i + 1, i + 1, Nat.le_refl _, by omega, rfl, by go_num, by go_num, HO, HB, HP2⟩
            case measure => simp [intOf]; omega
    · obtain rfl : i = s.size + 1 := by omega
      have h1' : ¬ ((s.size + 1 : Nat) : Int) ≤ (s.size : Int) := by omega
      have hA : partsP s = A := by
        rcases unhide HP with ⟨h, _⟩ | ⟨_, h⟩
        · omega
        · exact h
      clear HP
      subst hA
      go_wp2_with fail
      go_ret
      exact ⟨va, vc, rfl, unhide HO, unhide HB⟩
set_option maxRecDepth 100000 in
set_option maxHeartbeats 1000000 in
theorem rbad_any (s : ByteArray) (w : World) (hs : s.size ≤ 1000000000) : Calls Tryz.prog 38 #[.string s] w fun e w' => e = .returned (.bool (decide (1024 < s.size) || Tr.hasB s 0)) ∧ w' = w := by
  have HQ : Hid (∀ j (h : j < s.size), s[j].toNat = ((bs s).getD j 0).toNat) := fun j h => by
    have e := Lib.data_getElem? s j h
    simp [bs, List.getD, e]
  have hl : (bs s).length = s.size := rfl
  go_enter Tryz.func38, Tryz.ntmps38
  go_wp2_with fail
  go_loopw [3] (fun x wr => ∃ i : Nat, i ≤ s.size ∧ x = .int .i64 i ∧ wr = w ∧ Hid (∀ j, j < i → (bs s).getD j 0 ≠ 0)) (fun x _ => s.size - (intOf x).toNat)
  case atStart => exact ⟨0, Nat.zero_le _, rfl, rfl, fun j hj => by omega⟩
  case round =>
    obtain ⟨i, hi, rfl, rfl, HI⟩ := hrel
    by_cases hlt : i < s.size
    · have hi' : (i : Int) < (s.size : Int) := by omega
      by_cases h0 : (bs s).getD i 0 = 0
      · have hx : (s[i].toNat : Int) = 0 := by rw [unhide HQ i hlt, h0]; rfl
        have HR : Hid (Tr.hasB s 0 = true) := decide_eq_true (by
          have e : (bs s)[i]'(by omega) = 0 := by
            have := h0
            simp only [List.getD, List.getElem?_eq_getElem (show i < (bs s).length by omega), Option.getD_some] at this
            exact this
          rw [← e]; exact List.getElem_mem _)
        clear HI h0
        go_wp2_with fail
        go_ret
        exact ⟨by rw [unhide HR, Bool.or_true]; rfl, rfl⟩
      · have hx : ¬ (s[i].toNat : Int) = 0 := by
          rw [unhide HQ i hlt]
          exact fun e => h0 (UInt8.toNat_inj.1 (by show _ = 0; omega))
        go_wp2_with fail
        go_roundw
        case rel =>
          refine ⟨i + 1, by omega, by go_num, trivial, fun j hj => ?_⟩
          by_cases ej : j = i
          · rw [ej]; exact h0
          · exact unhide HI j (by omega)
        case measure => simp [intOf]; omega
    · obtain rfl : i = s.size := by omega
      have HR : Hid (Tr.hasB s 0 = false) := decide_eq_false (by
        intro h
        obtain ⟨j, hj, e⟩ := List.getElem_of_mem h
        have := unhide HI j hj
        simp only [List.getD, List.getElem?_eq_getElem hj, Option.getD_some] at this
        exact this e)
      clear HI
      have hll : ¬ ((s.size : Nat) : Int) < (s.size : Int) := by omega
      go_wp2_with fail
      go_ret
      exact ⟨by rw [unhide HR, Bool.or_false]; exact ret_b (decide_eq_decide.2 ⟨fun h => by omega, fun h => by omega⟩), rfl⟩
end Go.Proofs.YthmoinagfooncaaGreatDoor.Pt
