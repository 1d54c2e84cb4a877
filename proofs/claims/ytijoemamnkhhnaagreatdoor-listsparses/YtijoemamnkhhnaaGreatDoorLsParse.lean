/- What strings.Split at a comma and Parse answer. -/
import Derived.Test.YtijoemamnkhhnaaGreatDoorLsIt4
import Derived.Test.YtijoemamnkhhnaaGreatDoorLsList
import Derived.Shelf.Strings.Split
import Derived.Laws.EntriesVeiled
namespace Go.Proofs.YtijoemamnkhhnaaGreatDoor.Ls
open Go.RowKit Go.Shelf

theorem Tryz.infoStr : (Tryz.prog.info? 9).map (fun i => (i.zero, i.size, i.bytes)) = some (some (.string ByteArray.empty), 1, 16) := by kernel_rfl

theorem splitK_C : ∀ (n : Nat) (s : List UInt8), s.length ≤ n → Lib.splitK [44] 0 (s.count 44) s = splitC s
  | n, s, hn => by
    by_cases hm : (44 : UInt8) ∈ s
    · obtain ⟨a, b, rfl, ha⟩ := List.eq_append_cons_of_mem hm
      have hc : ∀ c ∈ a, c ≠ 44 := fun c hc e => ha (e ▸ hc)
      have hi : Lib.index (a ++ 44 :: b) [44] = (a.length : Int) := by rw [Lib.index_one]; exact idx_hit 44 b hc
      have h0 : a.count 44 = 0 := List.count_eq_zero.2 ha
      have e : (a ++ 44 :: b).count 44 = b.count 44 + 1 := by rw [List.count_append, h0, List.count_cons_self]; omega
      rw [e, Lib.splitK, hi, if_neg (by simp), splitC_hit b hc]
      cases n with
      | zero => simp at hn
      | succ n =>
        have ih := splitK_C n b (by simp at hn; omega)
        simp at ih ⊢
        exact ih
    · have h0 : s.count 44 = 0 := List.count_eq_zero.2 hm
      rw [h0, splitC_end (fun c hc e => hm (e ▸ hc))]; rfl

/-- the parts of a text between commas -/
def pcs (s : ByteArray) : List ByteArray := Lib.splitB { data := #[44] } 0 (Lib.countB s { data := #[44] }) s
theorem pcs_bs (s : ByteArray) : (pcs s).map bs = splitC (bs s) := by
  unfold pcs
  have h := Lib.splitB_data { data := #[44] } 0 (Lib.countB s { data := #[44] }) s
  have e : Lib.countB s { data := #[44] } = (bs s).count 44 := Lib.count_one 44 (bs s)
  rw [e] at h ⊢
  exact h.trans (splitK_C _ (bs s) (Nat.le_refl _))
theorem pcs_len (s : ByteArray) : (pcs s).length = (splitC (bs s)).length := by rw [← pcs_bs]; simp
theorem pcs_le (s : ByteArray) : (pcs s).length ≤ s.size + 1 := by
  have h1 := splitC_len (bs s)
  have h2 : ∀ l : List (List UInt8), l.length ≤ (l.map (fun x => x.length + 1)).sum := by
    intro l
    induction l with
    | nil => simp
    | cons x l ih => simp at ih ⊢; omega
  have := h2 (splitC (bs s))
  rw [pcs_len, ← bs_len]; omega
theorem pcs_count (s : ByteArray) : Lib.countB s { data := #[44] } + 1 = (pcs s).length := (Lib.splitB_all { data := #[44] } (Nat.le_refl _) 0 _ s rfl).symm
theorem pcs_size (s x : ByteArray) (h : x ∈ pcs s) : x.size ≤ s.size := by
  have h1 : bs x ∈ splitC (bs s) := by rw [← pcs_bs]; exact List.mem_map_of_mem h
  have h2 := splitC_len (bs s)
  have h3 : ∀ (l : List (List UInt8)), bs x ∈ l → (bs x).length + 1 ≤ (l.map (fun x => x.length + 1)).sum := by
    intro l
    induction l with
    | nil => simp
    | cons y l ih =>
      intro hm
      rcases List.mem_cons.1 hm with e | hm
      · rw [← e]; simp
      · have := ih hm; simp at this ⊢; omega
  have := h3 _ h1
  rw [← bs_len, ← bs_len]; omega

set_option maxHeartbeats 1000000 in
theorem split_any (s : ByteArray) (w : World) (hs : s.size ≤ 4096) :
    Calls Tryz.prog 11 #[.string s, .string { data := #[44] }] w fun e w' => e = .returned (.slice (some ⟨w.heap.size, 0, none⟩) (pcs s).length (pcs s).length) ∧ w' = w.alloc (.cells ((pcs s).map Value.string).toArray 9) := by
  have hle := pcs_le s
  have hcn := pcs_count s
  have c := Any.strings_genSplit_core Tryz.lays221 Tryz.infoStr s { data := #[44] } 0 (-1) (Lib.countB s { data := #[44] } + 1) w (by omega) (Nat.le_refl _) (Nat.zero_le _)
    (fun x c hx => by
      have := Tryz.strings_Index_one x 44 (w.alloc (.cells c 9))
      rw [← Lib.index_one] at this
      exact this)
    (by
      have := Tryz.strings_Count_one s 44 w
      rw [show Lib.countByte s.data.toList 44 = Lib.countB s { data := #[44] } from (Lib.count_one 44 (bs s)).symm] at this
      exact this) (by decide) (by decide) (by rw [if_pos (by decide)]; omega)
  have e2 : Lib.cellsOf (Lib.splitB { data := #[44] } 0 (Lib.countB s { data := #[44] } + 1 - 1) s) (Lib.countB s { data := #[44] } + 1) = ((pcs s).map Value.string).toArray := by
    rw [Nat.add_sub_cancel, hcn]; exact Lib.cellsOf_full _
  rw [e2, Nat.add_sub_cancel] at c
  have e3 : (Lib.splitB { data := #[44] } 0 (Lib.countB s { data := #[44] }) s).length = (pcs s).length := rfl
  rw [e3, hcn] at c
  have C : Hid (Calls Tryz.prog 55 #[.string s, .string { data := #[44] }, .int .i64 0, .int .i64 (-1)] w fun e w' => e = .returned (.slice (some ⟨w.heap.size, 0, none⟩) (pcs s).length (pcs s).length) ∧ w' = w.alloc (.cells ((pcs s).map Value.string).toArray 9)) := c
  clear c e2 e3
  go_enter Tryz.func11, Tryz.ntmps11
  go_wp2_with (go_at_call 55; refine (unhide C).mono ?_; rintro e w' ⟨rfl, hw⟩; rw [hw])
  go_ret
  exact ⟨rfl, rfl⟩

set_option maxHeartbeats 400000 in
theorem readers_any (w : World) : Calls Tryz.prog 10 #[] w fun e w' => e = .returned formsV ∧ Below w.heap.size w w' := by
  unfold formsV
  go_enter Tryz.func10, Tryz.ntmps10
  go_wp2
  exact bodyPost_ret (v := .agg #[.func (.func 51) #[] #[], .func (.func 52) #[] #[], .func (.func 53) #[] #[], .func (.func 54) #[] #[]]) (by simp [results, Tryz.results10, go_sem]) rfl ⟨rfl, by repeat (first | exact Below.refl _ _ | apply Below.setCell | apply Below.alloc | simp)⟩

theorem two_new (w : World) (o : Obj) (cs : Array Value) (t : TypeId) (i : Nat) : ((w.alloc o).alloc (.cells cs t)).cell? ⟨w.heap.size + 1, i, none⟩ = cs[i]? := by
  have h := heap_alloc_new (w.alloc o) (.cells cs t)
  rw [World.size_alloc] at h
  exact cell_of_row _ _ i _ _ _ h
theorem pair_new2 (w : World) (o : Obj) (x y : Value) (e : TypeId) : ∀ j u, [x, y][j]? = some u → ((w.alloc o).alloc (.cells #[x, y] e)).cell? ((⟨w.heap.size + 1, 0, none⟩ : Addr).add j) = some u := by
  have h := pair_new (w.alloc o) x y e
  rw [World.size_alloc] at h
  exact h
def eV (n : Int) : Value := .int .i64 n
/-- what Parse leaves -/
def ParsePost (w : World) (s : ByteArray) (e : Ending) (w' : World) : Prop :=
  ∃ v, e = .returned (.tuple #[v, .int .i64 (parseE (bs s))]) ∧ w'.ownsRow w.heap.size 53 2 v (parseL (bs s)).length (rc (parseL (bs s))) ∧ Below w.heap.size w w'
theorem parsePost_nix {w w' : World} {s : ByteArray} {n : Int} (h1 : parseL (bs s) = []) (h2 : parseE (bs s) = n) (hb : Below w.heap.size w w') : ParsePost w s (.returned (.tuple #[.slice none 0 0, .int .i64 n])) w' := by
  refine ⟨_, by rw [h2], ?_, hb⟩
  rw [h1]
  exact World.ownsRow_nil _ _ _ _
theorem parse_long {s : List UInt8} (h : 4096 < s.length) : parseL s = [] ∧ parseE s = 3 := by
  unfold parseL parseE; rw [if_pos h, if_pos h]; exact ⟨rfl, rfl⟩
theorem parse_none {s : List UInt8} (h : s.length ≤ 4096) (hn : parse s = none) : parseL s = [] ∧ parseE s = 5 := by
  unfold parseL parseE; rw [if_neg (by omega), if_neg (by omega), hn]; exact ⟨rfl, rfl⟩
theorem parse_some {s : List UInt8} {l : List R} (h : s.length ≤ 4096) (hn : parse s = some l) : parseL s = l ∧ parseE s = 0 := by
  unfold parseL parseE; rw [if_neg (by omega), if_neg (by omega), hn]; exact ⟨rfl, rfl⟩
theorem items_take_no {xs : List (List UInt8)} {k : Nat} (hk : k < xs.length) (h : item xs[k] = none) : items xs = none := by
  induction xs generalizing k with
  | nil => simp at hk
  | cons x r ih =>
    cases k with
    | zero => simp at h; rw [items, h]
    | succ k =>
      have := ih (k := k) (by simpa using hk) (by simpa using h)
      rw [items, this]
      cases item x <;> rfl
theorem items_take_yes {xs : List (List UInt8)} {k : Nat} {l : List R} {r : R} (hk : k < xs.length) (hl : items (xs.take k) = some l) (h : item xs[k] = some r) : items (xs.take (k + 1)) = some (l ++ [r]) := by
  rw [List.take_succ_eq_append_getElem hk, items_append, hl]
  simp [items, h]
theorem pcs_get (s : ByteArray) (k : Nat) (hk : k < (pcs s).length) : ∃ h : k < (splitC (bs s)).length, (splitC (bs s))[k] = bs (pcs s)[k] := by
  have e := pcs_bs s
  refine ⟨by rw [← e]; simpa using hk, ?_⟩
  simp only [← e, List.getElem_map]

set_option maxHeartbeats 1000000 in
set_option maxRecDepth 100000 in
theorem parse_any (s : ByteArray) (w : World) (hs : s.size ≤ 4611686018427387904) : Calls Tryz.prog 5 #[.string s] w (ParsePost w s) := by
  by_cases hlong : 4096 < (s.size : Int)
  · have hp := hide (parse_long (s := bs s) (by rw [bs_len]; omega))
    go_enter Tryz.func5, Tryz.ntmps5
    go_wp2_with fail
    go_ret2
    exact parsePost_nix (unhide hp).1 (unhide hp).2 (Below.refl _ _)
  · have hsz : s.size ≤ 4096 := by omega
    obtain ⟨i0, hi, hz0, hz1, hz2⟩ := info_parts Tryz.infoRange
    go_enter Tryz.func5, Tryz.ntmps5
    go_wp2_with fail
    refine (readers_any _).mono ?_
    rintro e w1 ⟨rfl, hb1⟩
    unfold formsV
    go_wp2_with fail
    refine (split_any s _ hsz).mono ?_
    rintro e w2 ⟨rfl, hw2⟩
    obtain ⟨n, hn⟩ : ∃ n, n = (pcs s).length := ⟨_, rfl⟩
    have hn1 := pcs_le s
    rw [← hn] at hn1 ⊢
    have hsz2 : w1.heap.size + 1 < w2.heap.size := by rw [hw2]; simp
    have HF : Hid (w2.cell? ⟨w1.heap.size, 0, none⟩ = some (.func (.func 51) #[] #[]) ∧ w2.cell? ⟨w1.heap.size, 1, none⟩ = some (.func (.func 52) #[] #[]) ∧ w2.cell? ⟨w1.heap.size, 2, none⟩ = some (.func (.func 53) #[] #[]) ∧ w2.cell? ⟨w1.heap.size, 3, none⟩ = some (.func (.func 54) #[] #[])) := by
      rw [hw2]; refine ⟨?_, ?_, ?_, ?_⟩ <;> simp [World.cell?_alloc_old]
    have HP : Hid (∀ i (h : i < (pcs s).length), w2.cell? ⟨w1.heap.size + 1, i, none⟩ = some (.string (pcs s)[i])) := by
      intro i h
      rw [hw2, two_new]
      simp [List.getElem?_eq_getElem h]
    have HB2 : Hid (Below w.heap.size w w2) := by rw [hw2]; exact (hb1.alloc hb1.size _).alloc (by have := hb1.size; simp; omega) _
    clear hw2 hb1
    have HN := hide hn
    clear hn
    go_wp2_with fail
    go_loopw [5, 17] (fun v i wr => ∃ (k : Nat) (l : List R), k ≤ n ∧ i = .int .i64 k ∧ Hid (l.length = k ∧ items ((splitC (bs s)).take k) = some l) ∧ Hid (wr.ownsRow w2.heap.size 53 2 v k (rc l)) ∧ Hid (Below w2.heap.size w2 wr)) (fun _ i _ => n - (intOf i).toNat)
    case atStart => exact ⟨0, [], Nat.zero_le _, rfl, ⟨rfl, rfl⟩, World.ownsRow_nil _ _ _ _, Below.refl _ _⟩
    case round =>
      obtain ⟨k, l, hk, rfl, hit, hrow, hnx⟩ := hrel
      have hz := (unhide hnx).size
      by_cases hlt : k < n
      · have hlt' : (k : Int) < (n : Int) := by omega
        have hkp : k < (pcs s).length := by rw [← unhide HN]; exact hlt
        obtain ⟨hks, hkx⟩ := pcs_get s k hkp
        have hp := ((unhide hnx).cell (p := ⟨w1.heap.size + 1, k, none⟩) (by simp; omega)).trans (unhide HP k hkp)
        have f0 := ((unhide hnx).cell (p := ⟨w1.heap.size, 0, none⟩) (by simp; omega)).trans (unhide HF).1
        have f1 := ((unhide hnx).cell (p := ⟨w1.heap.size, 1, none⟩) (by simp; omega)).trans (unhide HF).2.1
        have f2 := ((unhide hnx).cell (p := ⟨w1.heap.size, 2, none⟩) (by simp; omega)).trans (unhide HF).2.2.1
        have f3 := ((unhide hnx).cell (p := ⟨w1.heap.size, 3, none⟩) (by simp; omega)).trans (unhide HF).2.2.2
        have hxs := pcs_size s _ (List.getElem_mem hkp)
        obtain ⟨x, hx⟩ : ∃ x, x = (pcs s)[k] := ⟨_, rfl⟩
        rw [← hx] at hp hkx hxs
        have C := hide (readItem_any x wr (by omega))
        unfold formsV at C
        clear hx
        cases hix : item (bs x) with
        | none =>
          rw [itemV_no hix] at C
          have hno := hide (parse_none (s := bs s) (by rw [bs_len]; omega) (items_take_no hks (by rw [hkx]; exact hix)))
          clear hix hkx hks hkp hxs hit
          go_wp2_with fail
          refine (unhide C).mono ?_
          rintro e w3 ⟨rfl, hb3⟩
          have HB3 : Hid (Below w.heap.size w w3) := (unhide HB2).trans (((unhide hnx).trans (hb3.mono hz)).mono (unhide HB2).size)
          clear hb3 C hrow hnx
          go_wp2_with fail
          go_ret2
          exact parsePost_nix (unhide hno).1 (unhide hno).2 ((unhide HB3).alloc (unhide HB3).size _)
        | some r =>
          rw [itemV_yes hix] at C
          have hyes : Hid ((l ++ [r]).length = k + 1 ∧ items ((splitC (bs s)).take (k + 1)) = some (l ++ [r])) := ⟨by simp [(unhide hit).1], items_take_yes hks (unhide hit).2 (by rw [hkx]; exact hix)⟩
          clear hix hkx hks hkp hxs hit
          obtain ⟨x1, x2⟩ := r
          go_wp2_with fail
          refine (unhide C).mono ?_
          rintro e w3 ⟨rfl, hb3⟩
          have HB3 : Hid (Below w2.heap.size w2 w3) := (unhide hnx).trans (hb3.mono hz)
          have hz3 := hb3.size
          have hr3 := hide (own_below (unhide hrow) hb3)
          clear hb3 C hrow hnx
          go_wp2_with (at_builtin; refine wpList_append_own _ rfl _ _ 23 rfl w2.heap.size 53 i0 _ 2 16 Tryz.underlying23 hi hz0 hz1 hz2 rfl (by decide) _ _ _ rfl (((unhide hr3).alloc _).alloc _) ⟨w3.heap.size + 1, 0, none⟩ 1 1 [.int .i64 x1, .int .i64 x2] rfl rfl (by exact pair_new2 _ _ _ _ _) (pair_one _ _) (by unfold maxLen; omega) (by omega) (by simp; omega) ?_; intro v' w4 hown4 hg4 hnil4)
          have hs2 := (unhide HB3).size
          have HB4 : Hid (Below w2.heap.size w2 w4) := (((unhide HB3).alloc hs2 _).alloc (by simp; omega) _).grown hg4 (by simp; omega) (fun j hj => ((unhide hr3).lt j hj).1)
          have HR4 : Hid (w4.ownsRow w2.heap.size 53 2 v' (k + 1) (rc (l ++ [(x1, x2)]))) := by rw [rc_snoc]; exact hown4
          clear hown4 hg4 hnil4 hr3 HB3
          go_roundw
          case rel => exact ⟨k + 1, l ++ [(x1, x2)], by omega, by go_num, hyes, HR4, HB4⟩
          case measure => simp [intOf]; omega
      · have hkn : k = n := by omega
        have hyes := hide (parse_some (s := bs s) (l := l) (by rw [bs_len]; omega) (by
          have h := (unhide hit).2
          rw [List.take_of_length_le (by rw [← pcs_len, ← unhide HN]; omega)] at h
          exact h))
        have hll := hide (unhide hit).1
        clear hit hkn
        go_wp2_with fail
        go_ret2
        refine ⟨_, by rw [(unhide hyes).2]; rfl, ?_, (unhide HB2).trans ((unhide hnx).mono (unhide HB2).size)⟩
        rw [(unhide hyes).1, unhide hll]
        exact own_base (unhide hrow) (unhide HB2).size
end Go.Proofs.YtijoemamnkhhnaaGreatDoor.Ls
