/- What Fields answers. -/
import Derived.Test.YtpfdjnnnemkoiabDoorCuIterS
import Derived.Test.YtpfdjnnnemkoiabDoorCuBytes
import Derived.Test.YtpfdjnnnemkoiabDoorCuShelf
namespace Go.Proofs.YtpfdjnnnemkoiabDoor.Cu
open Go.RowKit Go.Shelf
open Ls (R Rg has)

attribute [local go_sem] Oper.semAt_some

/-- the fields of a line at the places of a list -/
def fpick (s : Bs) (rs : List R) (sep : UInt8) : List Bs := pick (inL rs) 0 (fcut sep s)
def faAns (s : ByteArray) (rs : List R) (sep : UInt8) (bare : Bool) : Value :=
  if sep ∈ bs s then .tuple #[.string (bt (jn sep (fpick (bs s) rs sep))), .bool true] else if bare then .tuple #[noText, .bool false] else .tuple #[.string s, .bool true]
theorem fpick_len (s : Bs) (rs : List R) (sep : UInt8) : (jn sep (fpick s rs sep)).length ≤ s.length + 1 ∧ (fpick s rs sep).length ≤ s.length + 1 := by
  have h1 := jn_len sep (fpick s rs sep)
  have h2 := (fcut_sum sep s).1
  have h3 := pick_len (inL rs) (fcut sep s) 0
  have h4 := lens_pick (inL rs) (fcut sep s) (fun k l => pick (inL rs) k l) (fun k => rfl) (fun k x r => by simp only [pick]) 0
  unfold fpick at *
  omega
theorem cv_one (c : UInt8) (W : World) : (convert 34 9 (.slice (some ⟨W.heap.size, 0, none⟩) 1 1)).run Tryd.prog (W.alloc (.cells #[.int .u8 c.toNat] 5)) = .ok (.string (bt [c])) (W.alloc (.cells #[.int .u8 c.toNat] 5)) :=
  run_convert_bytes_back _ 34 9 5 ⟨W.heap.size, 0, none⟩ 1 [c] Tryd.underlying34 Tryd.underlying5 Tryd.underlying9 (fun j hj => by
    match j, hj with
    | 0, _ => simp [Addr.add])
theorem map_bt (xs : List Bs) : (xs.map bt).map (·.data.toList) = xs := by
  rw [List.map_map]
  have : (fun x : ByteArray => x.data.toList) ∘ bt = id := by funext x; simp [bt]
  rw [this, List.map_id]

/-- texts of one's own, put together -/
theorem join_any (xs : List Bs) (v : Value) (B : Nat) (sep : UInt8) (w : World) (h : w.ownsRow B 9 1 v xs.length (cellsS xs)) (hl : (jn sep xs).length ≤ 140737488355328) (hn : xs.length ≤ 140737488355328) :
    Calls Tryd.prog 30 #[v, .string (bt [sep])] w fun e w' => e = .returned (.string (bt (jn sep xs))) ∧ Below w.heap.size w w' := by
  cases xs with
  | nil =>
    obtain ⟨a, c, rfl⟩ : ∃ a c, v = .slice a 0 c := by
      rcases h.2 with ⟨rfl, _⟩ | ⟨g, cap, cur, rfl, _⟩ <;> exact ⟨_, _, rfl⟩
    exact (Tryd.strings_Join_none a c (bt [sep]) w).mono fun e w' ⟨h1, h2⟩ => ⟨by rw [h1]; rfl, h2 ▸ Below.refl _ _⟩
  | cons x r =>
    rcases h.2 with ⟨_, h0⟩ | ⟨g, cap, cur, rfl, hb, hg, hle, _⟩
    · simp at h0
    · have hc := h.cells (g := g) rfl
      have hj := Tryd.strings_Join g 0 cap ((x :: r).map bt) (bt [sep]) w (fun j y hy => by
        have := hc j (.string y) (by
          rw [cellsS, List.getElem?_map]
          rw [List.getElem?_map] at hy
          cases hq : (x :: r)[j]? with
          | none => rw [hq] at hy; simp at hy
          | some q => rw [hq] at hy; simp at hy ⊢; exact hy)
        have ha : (⟨g, 0, none⟩ : Addr).add j = ⟨g, 0 + j, none⟩ := by unfold Addr.add; split <;> simp_all
        rw [ha] at this
        exact this) (h.lt g rfl).2 (by rw [List.length_map]; exact hn) (by rw [List.length_map]; exact hle) (by rw [map_bt]; exact hl)
      rw [List.length_map, map_bt] at hj
      exact hj

set_option maxRecDepth 100000 in
set_option maxHeartbeats 1000000 in
theorem fields_any (s : ByteArray) (a : Option Addr) (n cap c' : Nat) (rs : List R) (sep : UInt8) (bare : Bool) (w : World) (h : Rg w a n c' rs) (hn : n ≤ 4611686018427387904) (hs : s.size ≤ 1073741823) :
    Calls Tryd.prog 12 #[.string s, .slice a n cap, .int .u8 sep.toNat, .bool bare] w fun e w' => e = .returned (faAns s rs sep bare) ∧ Below w.heap.size w w' := by
  have HR := hide h
  have HI := hide (Tryd.strings_IndexByte s (sep.toNat : Int) w)
  have hse : ((sep.toNat : Int)).toNat.toUInt8 = sep := by simp
  rw [hse] at HI
  clear h hse
  by_cases hm : sep ∈ bs s
  · have ha : Hid (faAns s rs sep bare = .tuple #[.string (bt (jn sep (fpick (bs s) rs sep))), .bool true]) := by simp [faAns, hm, Hid]
    have hi0 := indexByte_pos hm
    obtain ⟨ix, hix⟩ : ∃ ix, ix = Lib.indexByte s.data.toList sep := ⟨_, rfl⟩
    rw [← hix] at HI hi0
    have hi1 : ¬ ix < 0 := by omega
    clear hm hix
    go_enter Tryd.func12, Tryd.ntmps12
    go_wp2_with (first
      | (go_at_call 27; refine (unhide HI).mono ?_; rintro e w0 ⟨rfl, rfl⟩; clear HI)
      | (go_at_call 29; refine (eachField_any _ _ _).mono ?_; rintro e w' ⟨rfl, rfl⟩)
      | (go_at_call 21; refine (listed_any _ rfl _).mono ?_; rintro e w' ⟨rfl, rfl⟩)
      | (go_at_call 28; refine (chosenS_any _ _ _ _ _).mono ?_; rintro e w' ⟨rfl, rfl⟩))
    obtain ⟨F1, hF1⟩ : ∃ v : Value, v = .func (.func 45) #[] #[.pointer (some ⟨w0.heap.size, 0, none⟩), .pointer (some ⟨w0.heap.size + 1, 0, none⟩)] := ⟨_, rfl⟩
    obtain ⟨F2, hF2⟩ : ∃ v : Value, v = .func (.func 39) #[] #[.pointer (some ⟨w0.heap.size + 1 + 1, 0, none⟩)] := ⟨_, rfl⟩
    rw [← hF1, ← hF2]
    have b1 := ((((Boxed.new w0 9 (.string s)).alloc (.cells #[.int .u8 sep.toNat] 5)).alloc (.cells #[.slice a n cap] 22)).alloc (.cells #[F1] 57)).alloc (.cells #[F2] 53)
    have b5 := (((Boxed.new (w0.alloc (.cells #[.string s] 9)) 5 (.int .u8 sep.toNat)).alloc (.cells #[.slice a n cap] 22)).alloc (.cells #[F1] 57)).alloc (.cells #[F2] 53)
    have b2 := ((Boxed.new ((w0.alloc (.cells #[.string s] 9)).alloc (.cells #[.int .u8 sep.toNat] 5)) 22 (.slice a n cap)).alloc (.cells #[F1] 57)).alloc (.cells #[F2] 53)
    have b3 := (Boxed.new (((w0.alloc (.cells #[.string s] 9)).alloc (.cells #[.int .u8 sep.toNat] 5)).alloc (.cells #[.slice a n cap] 22)) 57 F1).alloc (.cells #[F2] 53)
    have b4 := Boxed.new ((((w0.alloc (.cells #[.string s] 9)).alloc (.cells #[.int .u8 sep.toNat] 5)).alloc (.cells #[.slice a n cap] 22)).alloc (.cells #[F1] 57)) 53 F2
    have hB0 : Below w0.heap.size w0 (((((w0.alloc (.cells #[.string s] 9)).alloc (.cells #[.int .u8 sep.toNat] 5)).alloc (.cells #[.slice a n cap] 22)).alloc (.cells #[F1] 57)).alloc (.cells #[F2] 53)) := (((((Below.refl _ w0).alloc (Nat.le_refl _) _).alloc (by simp) _).alloc (by simp; omega) _).alloc (by simp; omega) _).alloc (by simp; omega) _
    have hsz : (((((w0.alloc (.cells #[.string s] 9)).alloc (.cells #[.int .u8 sep.toNat] 5)).alloc (.cells #[.slice a n cap] 22)).alloc (.cells #[F1] 57)).alloc (.cells #[F2] 53)).heap.size = w0.heap.size + 5 := by simp
    simp only [World.size_alloc] at b1 b2 b3 b4 b5
    generalize (((((w0.alloc (.cells #[.string s] 9)).alloc (.cells #[.int .u8 sep.toNat] 5)).alloc (.cells #[.slice a n cap] 22)).alloc (.cells #[F1] 57)).alloc (.cells #[F2] 53)) = W0 at *
    subst hF1 hF2
    have hR0 : Rg W0 a n c' rs := (unhide HR).below hB0
    obtain ⟨hl1, hl2⟩ := fpick_len (bs s) rs sep
    rw [bs_len] at hl1 hl2
    have hfl : (fcut sep (bs s)).length ≤ 1073741824 := by have := (fcut_sum sep (bs s)).1; rw [bs_len] at this; omega
    have H := hide (collectS_any 44 _ (fpick (bs s) rs sep) (fun W => (Boxed W w0.heap.size 9 (.string s) ∧ Boxed W (w0.heap.size + 1) 5 (.int .u8 sep.toNat)) ∧ Boxed W (w0.heap.size + 1 + 1) 22 (.slice a n cap) ∧ Boxed W (w0.heap.size + 1 + 1 + 1) 57 (.func (.func 45) #[] #[.pointer (some ⟨w0.heap.size, 0, none⟩), .pointer (some ⟨w0.heap.size + 1, 0, none⟩)]) ∧ Boxed W (w0.heap.size + 1 + 1 + 1 + 1) 53 (.func (.func 39) #[] #[.pointer (some ⟨w0.heap.size + 1 + 1, 0, none⟩)]) ∧ Rg W a n c' rs) W0
      (enters_of Tryd.func44 (by kernel_rfl) rfl)
      (chosenS_itr (w0.heap.size + 1 + 1 + 1) (w0.heap.size + 1 + 1 + 1 + 1) 45 #[.pointer (some ⟨w0.heap.size, 0, none⟩), .pointer (some ⟨w0.heap.size + 1, 0, none⟩)] 39 #[.pointer (some ⟨w0.heap.size + 1 + 1, 0, none⟩)] (fcut sep (bs s)) (inL rs) _
        (fun W h => ⟨h.2.2.1, h.2.2.2.1⟩)
        (eachField_itr w0.heap.size (w0.heap.size + 1) s sep (by omega) _ (fun W h => h.1)).two
        (enters_of Tryd.func45 (by kernel_rfl) rfl) (enters_of Tryd.func39 (by kernel_rfl) rfl)
        (fun k W _ h => listed1_any (w0.heap.size + 1 + 1) a n cap c' rs k W h.2.1 h.2.2.2.2 hn) hfl)
      (fun W h => ⟨⟨boxed_below h b1 (by omega), boxed_below h b5 (by omega)⟩, boxed_below h b2 (by omega), boxed_below h b3 (by omega), boxed_below h b4 (by omega), hR0.below h⟩) (by omega))
    refine (unhide H).mono ?_
    rintro e w1 ⟨v, rfl, hO, hB⟩
    clear H b1 b2 b3 b4 b5
    have hBw : Below w0.heap.size w0 w1 := hB0.trans (hB.mono hB0.size)
    have hcv := cv_one sep w1
    have hB2 : Below w0.heap.size w0 (w1.alloc (.cells #[.int .u8 sep.toNat] 5)) := hBw.alloc hBw.size _
    have HJ := hide (join_any (fpick (bs s) rs sep) v W0.heap.size sep (w1.alloc (.cells #[.int .u8 sep.toNat] 5)) (hO.alloc _) (by omega) (by omega))
    clear hO
    go_wp2_with fail
    refine (unhide HJ).mono ?_
    rintro e w2 ⟨rfl, hB3⟩
    have hB4 : Below w0.heap.size w0 w2 := hB2.trans (hB3.mono hB2.size)
    clear HJ hcv
    go_wp2_with fail
    go_ret2
    exact ⟨by rw [unhide ha]; rfl, hB4⟩
  · have hi0 := indexByte_neg hm
    rw [show s.data.toList = bs s from rfl, hi0] at HI
    cases bare
    · have ha : Hid (faAns s rs sep false = .tuple #[.string s, .bool true]) := by simp [faAns, hm, Hid]
      clear hm hi0
      go_enter Tryd.func12, Tryd.ntmps12
      go_wp2_with fail
      refine (unhide HI).mono ?_
      rintro e w1 ⟨rfl, rfl⟩
      go_wp2_with fail
      go_ret2
      exact ⟨by rw [unhide ha]; rfl, Below.refl _ _⟩
    · have ha : Hid (faAns s rs sep true = .tuple #[noText, .bool false]) := by simp [faAns, hm, Hid]
      clear hm hi0
      go_enter Tryd.func12, Tryd.ntmps12
      go_wp2_with fail
      refine (unhide HI).mono ?_
      rintro e w1 ⟨rfl, rfl⟩
      go_wp2_with fail
      go_ret2
      exact ⟨by rw [unhide ha]; rfl, Below.refl _ _⟩
end Go.Proofs.YtpfdjnnnemkoiabDoor.Cu
