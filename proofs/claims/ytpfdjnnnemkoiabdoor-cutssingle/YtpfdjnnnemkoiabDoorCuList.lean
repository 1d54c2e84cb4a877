/- Lists of ranges in memory; Has. -/
import Derived.Test.YtpfdjnnnemkoiabDoorRows
import Derived.WalkKit
import Derived.WalkMore
import Derived.WalkSmall
import Derived.WalkSpells
import Derived.Laws.OwnMore
import Derived.Deep.QuietTactic
import Derived.BigQuiet
namespace Go.Proofs.YtpfdjnnnemkoiabDoor.Ls
open Go.RowKit

theorem hide {p : Prop} (h : p) : Hid p := h
theorem unhide {p : Prop} (h : Hid p) : p := h.out
abbrev R := Int × Int
def inR (n : Int) (r : R) : Bool := decide (r.1 ≤ n) && (decide (r.2 = 0) || decide (n ≤ r.2))
def has (l : List R) (n : Int) : Bool := l.any (inR n)
theorem Tryd.infoRange : (Tryd.prog.info? 33).map (fun i => (i.zero, i.size, i.bytes)) = some (some (.agg #[.int .i64 0, .int .i64 0]), 2, 16) := by kernel_rfl
abbrev rz : R := (0, 0)
/-- the cells of ranges -/
def rc (rs : List R) : List Value := rs.flatMap fun r => [.int .i64 r.1, .int .i64 r.2]
theorem rc_length (rs : List R) : (rc rs).length = rs.length * 2 := by
  induction rs with
  | nil => rfl
  | cons r l ih => simp [rc] at ih ⊢; omega
theorem rc_snoc (rs : List R) (r : R) : rc (rs ++ [r]) = rc rs ++ [.int .i64 r.1, .int .i64 r.2] := by simp [rc]
theorem rc_get (rs : List R) (i : Nat) (h : i < rs.length) : (rc rs)[i * 2]? = some (.int .i64 (rs.getD i rz).1) ∧ (rc rs)[i * 2 + 1]? = some (.int .i64 (rs.getD i rz).2) := by
  induction rs generalizing i with
  | nil => simp at h
  | cons r l ih =>
    cases i with
    | zero => simp [rc]
    | succ i =>
      have := ih i (by simpa using h)
      have e1 : (i + 1) * 2 = i * 2 + 1 + 1 := by omega
      have e : rc (r :: l) = .int .i64 r.1 :: .int .i64 r.2 :: rc l := by simp [rc]
      rw [e, e1]
      simpa using this
theorem drop_at (rs : List R) (k : Nat) (h : k < rs.length) : rs.drop k = rs.getD k rz :: rs.drop (k + 1) := by
  rw [List.drop_eq_getElem_cons h]; simp [List.getD, List.getElem?_eq_getElem h]
theorem take_at (rs : List R) (k : Nat) (h : k < rs.length) : rs.take (k + 1) = rs.take k ++ [rs.getD k rz] := by
  rw [List.take_succ_eq_append_getElem h]; simp [List.getD, List.getElem?_eq_getElem h]

/-- a list of ranges that came in: empty, or its cells lie at b, off -/
structure Rg (w : World) (a : Option Addr) (n cap : Nat) (rs : List R) : Prop where
  len : rs.length = n
  le : n ≤ cap
  nil : a = none → n = 0 ∧ cap = 0
  cells : n = 0 ∨ ∃ b off, a = some ⟨b, off, none⟩ ∧ b < w.heap.size ∧ ∀ i, i < n → w.cell? ⟨b, off + i * 2, none⟩ = some (.int .i64 (rs.getD i rz).1) ∧ w.cell? ⟨b, off + i * 2 + 1, none⟩ = some (.int .i64 (rs.getD i rz).2)
theorem Rg.below {w w' : World} {a : Option Addr} {n cap : Nat} {rs : List R} (h : Rg w a n cap rs) (hb : Below w.heap.size w w') : Rg w' a n cap rs := by
  refine ⟨h.len, h.le, h.nil, ?_⟩
  rcases h.cells with h | ⟨b, off, e, hlt, hc⟩
  · exact .inl h
  · exact .inr ⟨b, off, e, Nat.lt_of_lt_of_le hlt hb.size, fun i hi => ⟨(hb.cell hlt).trans (hc i hi).1, (hb.cell hlt).trans (hc i hi).2⟩⟩
theorem add_none (b off j : Nat) : (⟨b, off, none⟩ : Addr).add j = ⟨b, off + j, none⟩ := by unfold Addr.add; split <;> simp_all
theorem rg_of_owns {w : World} {base : Nat} {v : Value} {rs : List R} {e : TypeId} (h : w.ownsRow base e 2 v rs.length (rc rs)) : ∃ a cap, v = .slice a rs.length cap ∧ Rg w a rs.length cap rs := by
  rcases h.2 with ⟨rfl, hn⟩ | ⟨g, cap, cur, rfl, hb, hg, hle, rest⟩
  · exact ⟨none, 0, by rw [hn], rfl, by omega, fun _ => ⟨hn, rfl⟩, .inl hn⟩
  · refine ⟨some ⟨g, 0, none⟩, cap, rfl, rfl, hle, (by intro h; cases h), .inr ⟨g, 0, rfl, (h.lt g rfl).2, fun i hi => ?_⟩⟩
    obtain ⟨g1, g2⟩ := rc_get rs i hi
    have h1 := h.cells (g := g) rfl _ _ g1
    have h2 := h.cells (g := g) rfl _ _ g2
    rw [add_none] at h1 h2
    exact ⟨h1, h2⟩
theorem own_below {w w' : World} {base : Nat} {e : TypeId} {size : Nat} {v : Value} {n : Nat} {xs : List Value} (h : w.ownsRow base e size v n xs) (hb : Below w.heap.size w w') : w'.ownsRow base e size v n xs :=
  h.kept (row := none) ⟨hb.os, hb.tape, hb.output, hb.size, fun k hk _ => hb.block k hk⟩ (by cases v.ownBlock <;> simp)
theorem own_base {w : World} {base base' : Nat} {e : TypeId} {size : Nat} {v : Value} {n : Nat} {xs : List Value} (h : w.ownsRow base e size v n xs) (hb : base' ≤ base) : w.ownsRow base' e size v n xs := by
  refine ⟨h.1, ?_⟩
  rcases h.2 with hn | ⟨g, cap, cur, rfl, hg, rest⟩
  · exact .inl hn
  · exact .inr ⟨g, cap, cur, rfl, by omega, rest⟩
theorem pair_new (w : World) (x y : Value) (e : TypeId) : ∀ j u, [x, y][j]? = some u → (w.alloc (.cells #[x, y] e)).cell? ((⟨w.heap.size, 0, none⟩ : Addr).add j) = some u := by
  intro j u hj
  match j, hj with
  | 0, hj => simp at hj; subst hj; simp [Addr.add]
  | 1, hj => simp at hj; subst hj; simp [Addr.add]
theorem pair_one (a b : Int) : ∀ u ∈ [Value.int .i64 a, Value.int .i64 b], u.oneCell' = true := by
  intro u hu; simp at hu; rcases hu with rfl | rfl <;> rfl
theorem rg_nil (w : World) : Rg w none 0 0 [] := ⟨rfl, Nat.le_refl _, fun _ => ⟨rfl, rfl⟩, .inl rfl⟩
theorem rg_lit (w : World) (l : List R) (e : TypeId) : Rg (w.alloc (.cells (rc l).toArray e)) (some ⟨w.heap.size, 0, none⟩) l.length l.length l := by
  refine ⟨rfl, Nat.le_refl _, by simp, .inr ⟨w.heap.size, 0, rfl, by simp, fun i hi => ?_⟩⟩
  obtain ⟨g1, g2⟩ := rc_get l i hi
  rw [Nat.zero_add, cell_of_row _ _ _ _ _ _ (heap_alloc_new w _), cell_of_row _ _ _ _ _ _ (heap_alloc_new w _)]
  exact ⟨by simpa using g1, by simpa using g2⟩

theorem has_cons (r : R) (l : List R) (n : Int) : has (r :: l) n = (inR n r || has l n) := by simp [has]

set_option maxHeartbeats 400000 in
theorem has_some (b off len cap : Nat) (rs : List R) (n : Int) (w : World) (h : ∀ i, i < len → w.cell? ⟨b, off + i * 2, none⟩ = some (.int .i64 (rs.getD i rz).1) ∧ w.cell? ⟨b, off + i * 2 + 1, none⟩ = some (.int .i64 (rs.getD i rz).2)) (hb : b < w.heap.size) (hl : rs.length = len) (hlen : len ≤ 4611686018427387904) :
    Calls Tryd.prog 10 #[.slice (some ⟨b, off, none⟩) len cap, .int .i64 n] w fun e w' => e = .returned (.bool (has rs n)) ∧ Below w.heap.size w w' := by
  have HC := hide h
  have HL := hide hl
  clear h hl
  go_enter Tryd.func10, Tryd.ntmps10
  go_wp2
  go_loopw [9] (fun i wr => ∃ k : Nat, k ≤ len ∧ i = .int .i64 k ∧ Hid (has rs n = has (rs.drop k) n) ∧ Below w.heap.size w wr) (fun i _ => len - (intOf i).toNat)
  case atStart => exact ⟨0, Nat.zero_le _, rfl, rfl, Below.refl _ _⟩
  case round =>
    obtain ⟨k, hk, rfl, hr, hnx⟩ := hrel
    have hsz := hnx.size
    by_cases hlt : k < len
    · have hc1 := (hnx.cell (p := ⟨b, off + k * 2, none⟩) hb).trans (unhide HC k hlt).1
      have hc2 := (hnx.cell (p := ⟨b, off + k * 2 + 1, none⟩) hb).trans (unhide HC k hlt).2
      have hd := hide (drop_at rs k (by rw [unhide HL]; exact hlt))
      obtain ⟨r, hx⟩ : ∃ r, r = rs.getD k rz := ⟨_, rfl⟩
      rw [← hx] at hc1 hc2 hd
      clear hx
      obtain ⟨x, y⟩ := r
      simp only at hc1 hc2
      have hr2 : Hid (has rs n = (inR n (x, y) || has (rs.drop (k + 1)) n)) := by rw [unhide hr, unhide hd]; exact has_cons _ _ _
      clear hd hr
      by_cases h1 : x ≤ n
      · by_cases h2 : y = 0
        · have e2 : (y == 0) = true := by simp [h2]
          have hf : Hid (has rs n = true) := by rw [unhide hr2]; simp [inR, h1, h2, Hid]
          clear h2 hr2
          go_wp2
          go_ret
          exact ⟨by rw [unhide hf]; rfl, by repeat (first | exact hnx | apply Below.setCell | apply Below.alloc | simpa using hsz)⟩
        · have e2 : (y == 0) = false := by simp [h2]
          by_cases h3 : n ≤ y
          · have hf : Hid (has rs n = true) := by rw [unhide hr2]; simp [inR, h1, h3, Hid]
            clear h2 hr2
            go_wp2
            go_ret
            exact ⟨by rw [unhide hf]; rfl, by repeat (first | exact hnx | apply Below.setCell | apply Below.alloc | simpa using hsz)⟩
          · have hf : Hid (has rs n = has (rs.drop (k + 1)) n) := by rw [unhide hr2]; simp [inR, h2, h3, Hid]
            clear h2 hr2
            go_wp2
            go_roundw
            case rel => exact ⟨k + 1, by omega, by go_num, hf, by repeat (first | exact hnx | apply Below.setCell | apply Below.alloc | simpa using hsz)⟩
            case measure => simp [intOf]; omega
      · have hf : Hid (has rs n = has (rs.drop (k + 1)) n) := by rw [unhide hr2]; simp [inR, h1, Hid]
        clear hr2
        go_wp2
        go_roundw
        case rel => exact ⟨k + 1, by omega, by go_num, hf, by repeat (first | exact hnx | apply Below.setCell | apply Below.alloc | simpa using hsz)⟩
        case measure => simp [intOf]; omega
    · have hf : Hid (has rs n = false) := by rw [unhide hr, List.drop_eq_nil_of_le (by rw [unhide HL]; omega)]; rfl
      clear hr
      go_wp2
      go_ret
      exact ⟨by rw [unhide hf]; rfl, hnx⟩

set_option maxHeartbeats 400000 in
theorem has_none (a : Option Addr) (cap : Nat) (n : Int) (w : World) :
    Calls Tryd.prog 10 #[.slice a 0 cap, .int .i64 n] w fun e w' => e = .returned (.bool false) ∧ w' = w := by
  go_enter Tryd.func10, Tryd.ntmps10
  go_wp2
  refine wp_loop_rounds 1 ?_
  rw [rounds_succ]
  go_wp2
  go_ret
  exact ⟨rfl, rfl⟩
theorem has_any (a : Option Addr) (len cap c' : Nat) (rs : List R) (n : Int) (w : World) (h : Rg w a len c' rs) (hlen : len ≤ 4611686018427387904) :
    Calls Tryd.prog 10 #[.slice a len cap, .int .i64 n] w fun e w' => e = .returned (.bool (has rs n)) ∧ Below w.heap.size w w' := by
  rcases h.cells with rfl | ⟨b, off, rfl, hb, hc⟩
  · obtain rfl : rs = [] := List.eq_nil_of_length_eq_zero h.len
    exact (has_none a cap n w).mono fun e w' ⟨h1, h2⟩ => ⟨h1, h2 ▸ Below.refl _ _⟩
  · exact has_some b off len cap rs n w hc hb h.len hlen

theorem below_drew (w : World) (q : Nat) : Below w.heap.size w (w.drewN q) := ⟨rfl, rfl, rfl, Nat.le_refl _, fun _ _ => rfl⟩
end Go.Proofs.YtpfdjnnnemkoiabDoor.Ls
