/- The iterators of a line's fields: which places they give. -/
import Derived.Test.YtmpppdbomdepoaaGreatDoorKyBase
namespace Go.Proofs.YtmpppdbomdepoaaGreatDoor.Ky
open Go.RowKit Go.Shelf

attribute [local go_sem] Oper.semAt_some

/-- a place, as the iterator hands it on -/
def enc2 (x : Nat × Nat) : Array Value := #[.int .i64 (x.1 : Int), .int .i64 (x.2 : Int)]

theorem pre_snoc {α : Type} (pre : List α) (x : α) (rest : List α) : pre ++ [x] <+: pre ++ x :: rest := ⟨rest, by simp⟩
theorem part1_pos (c : UInt8) (r : Bs) : 0 < (part1 (c :: r)).length := by
  have h1 := congrArg List.length (part12 (c :: r))
  have h2 := part2_lt c r
  simp at h1; omega
theorem blank_places {o : Ord} (h : o.sep = 0) (s : Bs) : places o s = spans 0 0 (partsOf s) := by
  unfold places fields btw
  rw [if_pos h, if_pos h]; rfl
theorem blank_step (l : Bs) (k : Nat) (h : k < l.length) : spans 0 k (partsOf (l.drop k)) = (k, fend l k) :: spans 0 (fend l k) (partsOf (l.drop (fend l k))) ∧ k < fend l k := by
  rw [fend_drop, fend_eq]
  cases hd : l.drop k with
  | nil => have := congrArg List.length hd; simp at this; omega
  | cons c r =>
    rw [partsOf_cons, spans]
    have := part1_pos c r
    exact ⟨rfl, by omega⟩

set_option maxRecDepth 100000 in
set_option maxHeartbeats 1000000 in
theorem blank_itr (b : Nat) (s : ByteArray) (o : Ord) (ho : o.sep = 0) (hs : s.size ≤ 1073741824) (rd : World → Prop) (hrd : ∀ W, rd W → W.cell? ⟨b, 0, none⟩ = some (.string s)) :
    Rng.Itr Tryz.prog 173 #[.pointer (some ⟨b, 0, none⟩)] enc2 (places o s.data.toList) rd := by
  rw [blank_places ho]
  intro l J0 Jx0 W hJ0 hJx0 hJr0 hY0 h00
  obtain ⟨J, eJ⟩ : ∃ J, J = J0 W.heap.size := ⟨_, rfl⟩
  obtain ⟨Jx, eJx⟩ : ∃ Jx, Jx = Jx0 W.heap.size := ⟨_, rfl⟩
  have hJr : ∀ pre W1, J pre W1 → rd W1 := fun pre W1 h => hJr0 _ pre W1 (eJ ▸ h)
  have hY : ∀ m pre x W1, W.heap.size ≤ W1.heap.size → J pre W1 → pre ++ [x] <+: spans 0 0 (partsOf s.data.toList) → YieldAt Fence.wide m Tryz.prog l (enc2 x) W1 fun e W' =>
      W1.heap.size ≤ W'.heap.size ∧ ((e = .returned (.bool true) ∧ J (pre ++ [x]) W') ∨ (e = .returned (.bool false) ∧ Jx (pre ++ [x]) W')) := fun m pre x W1 h1 h2 h3 => by
    subst eJ eJx
    exact (hY0 m W.heap.size pre x W1 (Nat.le_refl _) h1 h2 h3).mono (fun e W' h => ⟨h.1.1, h.2⟩)
  have h0 : J [] W := eJ ▸ h00 _
  refine Calls.mono (R := fun e W' => (∃ v, e = .returned v) ∧ (J (spans 0 0 (partsOf s.data.toList)) W' ∨ ∃ pre, pre <+: spans 0 0 (partsOf s.data.toList) ∧ Jx pre W')) ?_ (fun e W' h => by subst eJ eJx; exact ⟨h.1, W.heap.size, Nat.le_refl _, h.2⟩)
  clear hJ0 hJx0 hJr0 hY0 h00 eJ eJx
  refine (callsIn_wide (n := 3)).1 ?_
  refine callsIn_of_wp Tryz.func173 rfl trivial ?_ rfl
  simp only [Tryz.ntmps173, List.size_toArray, List.length_cons, List.length_nil, Nat.reduceAdd, Nat.reduceSub, Array.replicate_succ, Array.replicate_zero, List.push_toArray, List.append_toArray, List.nil_append, List.cons_append]
  have HY := hide hY
  have HJr := hide hJr
  clear hY hJr
  gi_wp2
  gi_loopw [3] (fun i wr => ∃ (a : Nat) (pre : List (Nat × Nat)), i = .int .i64 a ∧ a ≤ s.size ∧ Hid (spans 0 0 (partsOf s.data.toList) = pre ++ spans 0 a (partsOf (s.data.toList.drop a))) ∧ Hid (J pre wr) ∧ W.heap.size ≤ wr.heap.size)
    (fun i _ => s.size - (intOf i).toNat)
  case atStart => exact ⟨0, [], rfl, Nat.zero_le _, rfl, h0, Nat.le_refl _⟩
  case round =>
    obtain ⟨a, pre, rfl, ha, hsp, hJw, hWs⟩ := hrel
    have hr1 := hrd _ (unhide HJr _ _ (unhide hJw))
    by_cases hlt : a < s.size
    · have hlt' : (a : Int) < (s.size : Int) := by omega
      obtain ⟨hst, hpr⟩ := blank_step s.data.toList a hlt
      have hfe := (fend_le s.data.toList a (Nat.le_of_lt hlt)).2
      have hx := hide ((unhide hsp).trans (by rw [hst]))
      have HC := hide (fun W => blankFieldEnd_any s a W ha hs)
      have hfs : fend s.data.toList a ≤ s.size := hfe
      obtain ⟨e, he⟩ : ∃ e, e = fend s.data.toList a := ⟨_, rfl⟩
      rw [← he] at hx HC hfs hpr
      clear hst hfe he hsp
      obtain ⟨fn, tmps, assign, body, hy, hR⟩ := unhide HY 2 pre (a, e) wr hWs (unhide hJw) (by rw [unhide hx]; exact pre_snoc _ _ _)
      rw [enc2] at hy
      gi_wp2_with (refine ⟨trivial, ?_⟩; gi_at_call 174; refine (callsIn_wide.2 (unhide HC _)).mono ?_; rintro e w' ⟨rfl, rfl⟩)
      refine hR.mono ?_
      rintro e3 W3 ⟨hW3, (⟨rfl, hJ3⟩ | ⟨rfl, hJx3⟩)⟩
      · have hJ3' := hide hJ3
        have hx2 : Hid (spans 0 0 (partsOf s.data.toList) = (pre ++ [(a, e)]) ++ spans 0 e (partsOf (s.data.toList.drop e))) := by
          show _ = _
          rw [unhide hx]; simp
        clear hJ3 hR hy HC hx hr1
        gi_wp2
        go_roundw
        case rel => exact ⟨e, pre ++ [(a, e)], rfl, hfs, hx2, hJ3', Nat.le_trans hWs hW3⟩
        case measure => simp [intOf]; omega
      · have hJ3' : Hid (Jx (pre ++ [(a, e)]) W3) := hJx3
        clear hJx3 hR hy HC hr1
        gi_wp2
        refine bodyPost_ret (results_none rfl _ _ _) rfl ?_
        exact ⟨⟨_, rfl⟩, .inr ⟨_, (by rw [unhide hx]; exact pre_snoc _ _ _), unhide hJ3'⟩⟩
    · obtain rfl : a = s.size := by omega
      have hx : Hid (spans 0 0 (partsOf s.data.toList) = pre) := by
        show _ = _
        rw [unhide hsp, List.drop_eq_nil_of_le (by have h2 : s.data.toList.length = s.size := rfl; omega)]
        simp [partsOf_nil, spans]
      gi_wp2
      go_end0
      exact ⟨⟨_, rfl⟩, .inl (by rw [unhide hx]; exact unhide hJw)⟩

theorem fl_split (p : UInt8) : ∀ l, (Ln.parts (Ln.isSep p.toNat) l).map (·.1) ++ (if Ln.lastT (Ln.parts (Ln.isSep p.toNat) l) then [[]] else []) = split p l
  | [] => rfl
  | c :: cs => by
    have ih := fl_split p cs
    rw [split, Ln.parts]
    by_cases h : c = p
    · have h1 : Ln.isSep p.toNat c = true := by rw [h]; simp [Ln.isSep]
      rw [if_pos h, if_pos h1, ← ih]
      have h2 : Ln.lastT (([], true) :: Ln.parts (Ln.isSep p.toNat) cs) = Ln.lastT (Ln.parts (Ln.isSep p.toNat) cs) := by
        cases hp : Ln.parts (Ln.isSep p.toNat) cs with
        | nil => rfl
        | cons x r => simp [Ln.lastT, List.getLast?_cons_cons]
      rw [h2]; rfl
    · have h1 : ¬ Ln.isSep p.toNat c = true := by
        simp [Ln.isSep]; exact fun e => h (UInt8.toNat_inj.1 e)
      rw [if_neg h, if_neg h1, ← ih]
      cases hp : Ln.parts (Ln.isSep p.toNat) cs with
      | nil => simp [Ln.lastT]
      | cons x r =>
        obtain ⟨x, b⟩ := x
        have h2 : Ln.lastT ((c :: x, b) :: r) = Ln.lastT ((x, b) :: r) := by
          cases r with
          | nil => rfl
          | cons y r => simp [Ln.lastT, List.getLast?_cons_cons]
        simp only [List.map_cons, List.cons_append, h2]
theorem sep_fields {o : Ord} (h : o.sep ≠ 0) (s : Bs) : Ln.fieldsL o.sep.toNat s = fields o s ∧ (btw o).length = 1 := by
  unfold Ln.fieldsL fields btw
  have hn : ¬ o.sep.toNat = 0 := fun e => h (UInt8.toNat_inj.1 e)
  rw [if_neg hn, if_neg h, if_neg h]
  exact ⟨fl_split _ _, rfl⟩
theorem grown_of_below {w w' : World} (h : Below w.heap.size w w') : w.grownBy w' none := by
  obtain ⟨h1, h2, h3, h4, h5⟩ := h
  exact ⟨h1, h2, h3, h4, fun k hk _ => h5 k hk⟩

theorem row_open {W W1 : World} {v : Value} {L : List Bs} (h : W1.ownsRow W.heap.size 9 1 v L.length (Ln.strs1 L)) (hn : 0 < L.length) :
    ∃ g cap, v = .slice (some ⟨g, 0, none⟩) L.length cap ∧ W.heap.size ≤ g ∧ g < W1.heap.size ∧ L.length ≤ 9223372036854775807 ∧ ∀ (X : World), X.heap[g]? = W1.heap[g]? → ∀ (i : Nat) (hi : i < L.length), X.cell? ⟨g, i, none⟩ = some (.string (Ln.bt L[i])) := by
  rcases h.2 with ⟨_, h0⟩ | ⟨g, cap, cur, hv, hb, hg, hc1, hc2, hc3, hc4⟩
  · omega
  · refine ⟨g, cap, hv, hb, (Array.getElem?_eq_some_iff.1 hg).1, (by unfold maxLen at hc2; omega), fun X hX i hi => ?_⟩
    rw [cell_of_row _ _ _ _ _ _ (hX.trans hg)]
    have h1 : (cur.toList.take (L.length * 1))[i]? = some (.string (Ln.bt L[i])) := by rw [hc4]; simp [Ln.strs1, List.getElem?_eq_getElem hi]
    rw [List.getElem?_take_of_lt (by omega)] at h1
    simpa using h1

set_option maxRecDepth 100000 in
set_option maxHeartbeats 1000000 in
theorem parted_itr (b c : Nat) (s : ByteArray) (o : Ord) (ho : o.sep ≠ 0) (hs : s.size ≤ 1073741824) (rd : World → Prop) (hrd : ∀ W, rd W → W.cell? ⟨b, 0, none⟩ = some (.string s) ∧ W.cell? ⟨c, 0, none⟩ = some (.int .u8 (o.sep.toNat : Int))) :
    Rng.Itr Tryz.prog 175 #[.pointer (some ⟨b, 0, none⟩), .pointer (some ⟨c, 0, none⟩)] enc2 (places o s.data.toList) rd := by
  intro l J0 Jx0 W hJ0 hJx0 hJr0 hY0 h00
  obtain ⟨hr1, hr2⟩ := hrd _ (hJr0 0 _ _ (h00 0))
  obtain ⟨hf, hbt⟩ := sep_fields ho s.data.toList
  have hpl : places o s.data.toList = spans 1 0 (fields o s.data.toList) := by unfold places; rw [hbt]
  have hle : ∀ (pre rest : List (Nat × Nat)) (x : Nat × Nat), places o s.data.toList = pre ++ x :: rest → x.1 ≤ x.2 ∧ x.2 ≤ s.size := fun _ _ _ h => places_le h
  have hne : fields o s.data.toList ≠ [] := by rw [fields, if_neg ho]; exact split_ne _ _
  have HC := hide (Ln.fields_any s o.sep.toNat W hs o.sep.toNat_lt)
  rw [hf] at HC
  have HLE := hide hle
  rw [hpl] at HLE hY0 ⊢
  generalize fields o s.data.toList = L at *
  have hnp : 0 < L.length := List.length_pos_iff.2 hne
  clear hle hf hbt hpl hne
  have HY0 := hide hY0
  have H00 := hide h00
  have HJ0 := hide hJ0
  clear hY0 h00 hJ0 hJx0 hJr0
  refine (callsIn_wide (n := 3)).1 ?_
  refine callsIn_of_wp Tryz.func175 rfl trivial ?_ rfl
  simp only [Tryz.ntmps175, List.size_toArray, List.length_cons, List.length_nil, Nat.reduceAdd, Nat.reduceSub, Array.replicate_succ, Array.replicate_zero, List.push_toArray, List.append_toArray, List.nil_append, List.cons_append]
  gi_wp2_with (refine ⟨trivial, ?_⟩; gi_at_call 176; refine (callsIn_wide.2 (unhide HC)).mono ?_; rintro e W1 ⟨v, rfl, hrow, hB⟩; obtain ⟨g, cap, hv, hg1, hg2, hL, hcs⟩ := row_open hrow hnp; subst hv; have HCS := hide hcs; clear hcs hrow)
  have HJ1 : Hid (J0 W1.heap.size [] W1) := unhide HJ0 _ _ _ _ none (unhide H00 _) (grown_of_below hB) (fun r e => by cases e)
  have hW1 := hB.size
  clear HC hB HJ0 H00 hr1 hr2 hnp
  gi_loopw [4, 12] (fun bg ix wr => ∃ (i k : Nat) (pre : List (Nat × Nat)), bg = .int .i64 k ∧ ix = .int .i64 i ∧ i ≤ L.length ∧ k ≤ s.size + 1 ∧ Hid (spans 1 0 L = pre ++ spans 1 k (L.drop i)) ∧ Hid (J0 W1.heap.size pre wr) ∧ Hid (wr.heap[g]? = W1.heap[g]?) ∧ W1.heap.size ≤ wr.heap.size)
    (fun _ ix _ => L.length - (intOf ix).toNat)
  case atStart => exact ⟨0, 0, [], rfl, rfl, Nat.zero_le _, by omega, rfl, HJ1, rfl, Nat.le_refl _⟩
  case round =>
    obtain ⟨i, k, pre, rfl, rfl, hi, hk, hsp, hJw, hgw, hWs⟩ := hrel
    by_cases hlt : i < L.length
    · have hlt' : (i : Int) < (L.length : Int) := by omega
      have hc := unhide HCS wr (unhide hgw) i hlt
      have hx : Hid (spans 1 0 L = pre ++ (k, k + L[i].length) :: spans 1 (k + L[i].length + 1) (L.drop (i + 1))) := by
        show _ = _
        rw [unhide hsp, List.drop_eq_getElem_cons hlt, spans]
      have hle := (unhide HLE _ _ _ (unhide hx)).2
      have hbs : (Ln.bt L[i]).size = L[i].length := rfl
      obtain ⟨y, hy0⟩ : ∃ y, y = L[i] := ⟨_, rfl⟩
      rw [← hy0] at hc hx hle hbs
      clear hy0 hsp
      simp only at hle
      have hkb : (k : Int) + (y.length : Int) ≤ 1073741824 := by omega
      have hkc : (k : Int) + (y.length : Int) + 1 = ((k + y.length + 1 : Nat) : Int) := by omega
      obtain ⟨fn, tmps, assign, body, hy, hR⟩ := unhide HY0 2 W1.heap.size pre (k, k + y.length) wr hW1 hWs (unhide hJw) (by rw [unhide hx]; exact pre_snoc _ _ _)
      rw [enc2] at hy
      simp only [Int.natCast_add] at hy
      have HKC := hide hkc
      clear hkc
      gi_wp2
      refine hR.mono ?_
      rintro e3 W3 ⟨hSt, (⟨rfl, hJ3⟩ | ⟨rfl, hJx3⟩)⟩
      · have hJ3' := hide hJ3
        have hx2 : Hid (spans 1 0 L = (pre ++ [(k, k + y.length)]) ++ spans 1 (k + y.length + 1) (L.drop (i + 1))) := by
          show _ = _
          rw [unhide hx]; simp
        have hg3 : Hid (W3.heap[g]? = W1.heap[g]?) := (hSt.2 g hg1 hg2).trans (unhide hgw)
        have hW3 := hSt.1
        clear hJ3 hR hy hx hc hgw hSt HLE
        gi_wp2
        go_roundw
        case rel => exact ⟨i + 1, k + y.length + 1, pre ++ [(k, k + y.length)], by rw [← unhide HKC], by go_num, by omega, by omega, hx2, hJ3', hg3, Nat.le_trans hWs hW3⟩
        case measure => simp [intOf]; omega
      · have hJ3' : Hid (Jx0 W1.heap.size (pre ++ [(k, k + y.length)]) W3) := hJx3
        clear hJx3 hR hy hc
        gi_wp2
        refine bodyPost_ret (results_none rfl _ _ _) rfl ?_
        exact ⟨⟨_, rfl⟩, W1.heap.size, hW1, .inr ⟨_, (by rw [unhide hx]; exact pre_snoc _ _ _), unhide hJ3'⟩⟩
    · obtain rfl : i = L.length := by omega
      have hx : Hid (spans 1 0 L = pre) := by
        show _ = _
        rw [unhide hsp, List.drop_length]; simp [spans]
      gi_wp2
      go_end0
      exact ⟨⟨_, rfl⟩, W1.heap.size, hW1, .inl (by rw [unhide hx]; exact unhide hJw)⟩
end Go.Proofs.YtmpppdbomdepoaaGreatDoor.Ky
