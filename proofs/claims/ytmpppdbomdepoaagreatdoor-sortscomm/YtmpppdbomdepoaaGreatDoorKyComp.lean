/- What great, fitFor and Compare answer. -/
import Derived.Test.YtmpppdbomdepoaaGreatDoorKyKey
import Derived.Test.YtmpppdbomdepoaaGreatDoorKyNum2
import Derived.Laws.IdiomStrings
import Derived.Lib.BufferRead
import Derived.Lib.Builder
namespace Go.Proofs.YtmpppdbomdepoaaGreatDoor.Ky
open Go.RowKit Go.Shelf

attribute [local go_sem] Oper.semAt_some

theorem Tryz.infoByte : (Tryz.prog.info? 5).map (fun i => (i.zero, i.size, i.bytes)) = some (some (.int .u8 0), 1, 1) := by kernel_rfl
/-- the bytes of a text, in a row of its own -/
def Rw (W : World) (b : Nat) (l : Bs) : Prop := ∃ cur fz, W.heap[b]? = some (.cells cur 5 fz) ∧ l.length ≤ fz.1 ∧ l.length ≤ cur.size ∧ cur.toList.take l.length = Lib.byteCells l
theorem Rw.lt {W : World} {b : Nat} {l : Bs} (h : Rw W b l) : b < W.heap.size := by
  obtain ⟨cur, fz, h1, _⟩ := h
  exact (Array.getElem?_eq_some_iff.1 h1).1
theorem Rw.cell {W : World} {b : Nat} {l : Bs} (h : Rw W b l) {i : Nat} (hi : i < l.length) : W.cell? ⟨b, i, none⟩ = some (.int .u8 (l[i].toNat : Int)) := by
  obtain ⟨cur, fz, h1, h2, h3, h4⟩ := h
  rw [cell_of_row _ _ _ _ _ _ h1]
  have e : (cur.toList.take l.length)[i]? = some (.int .u8 (l[i].toNat : Int)) := by rw [h4]; simp [Lib.byteCells, List.getElem?_eq_getElem hi]
  rw [List.getElem?_take_of_lt hi] at e
  simpa using e
theorem Rw.frozen {W : World} {b : Nat} {l : Bs} (h : Rw W b l) {i : Nat} (hi : i < l.length) : W.frozen? ⟨b, i, none⟩ = false := by
  obtain ⟨cur, fz, h1, h2, h3, h4⟩ := h
  simp [World.frozen?, h1]; omega
theorem Rw.set {W : World} {b : Nat} {l : Bs} (h : Rw W b l) {i : Nat} (d : UInt8) : Rw (W.setCell ⟨b, i, none⟩ (.int .u8 (d.toNat : Int))) b (l.set i d) := by
  obtain ⟨cur, fz, h1, h2, h3, h4⟩ := h
  refine ⟨cur.setIfInBounds i (.int .u8 (d.toNat : Int)), fz, ?_, by simpa using h2, by simpa using h3, ?_⟩
  · obtain ⟨hlt, hk⟩ := Array.getElem?_eq_some_iff.1 h1
    show (W.heap.modify b _)[b]? = _
    rw [Array.getElem?_eq_getElem (by rw [Array.size_modify]; exact hlt), Array.getElem_modify_self, hk]
    rfl
  · rw [List.length_set]
    have : (cur.setIfInBounds i (.int .u8 (d.toNat : Int))).toList = cur.toList.set i (.int .u8 (d.toNat : Int)) := by simp
    rw [this, List.take_set, h4]
    simp [Lib.byteCells, List.map_set]
theorem Rw.new (x : ByteArray) (W : World) (cap : Nat) : Rw (W.drew.alloc (.cells (bytesRow x cap) 5 ((bytesRow x cap).size, (bytesRow x cap).size + 1))) W.heap.size x.data.toList := by
  refine ⟨_, _, heap_alloc_new W.drew _, ?_, ?_, ?_⟩
  · simp [bytesRow]
  · simp [bytesRow]
  · simp [bytesRow, Lib.byteCells]
theorem Rw.back {W : World} {b c : Nat} {l : Bs} (h : Rw W b l) : (convert 95 9 (.slice (some ⟨b, 0, none⟩) l.length c)).run Tryz.prog W = .ok (.string (Ln.bt l)) W := by
  refine run_convert_bytes_back W 95 9 5 ⟨b, 0, none⟩ c l Tryz.underlying95 Tryz.underlying5 Tryz.underlying9 ?_
  intro j hj
  have := h.cell hj
  rw [show (⟨b, 0, none⟩ : Addr).add j = ⟨b, j, none⟩ from by simp [Addr.add]; omega]
  exact this
/-- the first k bytes as great letters -/
def upTo (s : Bs) (k : Nat) : Bs := (s.take k).map up ++ s.drop k
theorem upTo_len (s : Bs) (k : Nat) : (upTo s k).length = s.length := by simp [upTo]; omega
theorem upTo_at (s : Bs) (k : Nat) (h : k < s.length) : (upTo s k)[k]'(by rw [upTo_len]; exact h) = s[k] := by
  unfold upTo
  rw [List.getElem_append_right (by simp; omega)]
  simp [show k - min k s.length = 0 by omega]
theorem upTo_set (s : Bs) (k : Nat) (h : k < s.length) : (upTo s k).set k (up s[k]) = upTo s (k + 1) := by
  unfold upTo
  have hl : ((s.take k).map up).length = k := by simp; omega
  rw [List.set_append_right _ _ (by omega), hl, Nat.sub_self, List.take_succ_eq_append_getElem h, List.drop_eq_getElem_cons h, List.set_cons_zero, List.map_append]
  simp
theorem upTo_same (s : Bs) (k : Nat) (h : k < s.length) (hu : up s[k] = s[k]) : upTo s k = upTo s (k + 1) := by
  rw [← upTo_set s k h, hu]
  have := upTo_at s k h
  conv => rhs; rw [← this]
  exact (List.set_getElem_self _).symm
theorem upTo_all (s : Bs) (k : Nat) (h : s.length ≤ k) : upTo s k = s.map up := by
  unfold upTo; rw [List.take_of_length_le h, List.drop_eq_nil_of_le h]; simp

set_option maxRecDepth 100000 in
set_option maxHeartbeats 600000 in
theorem great_any (s : ByteArray) (w : World) (hs : s.size ≤ 1073741824) :
    Calls Tryz.prog 142 #[.string s] w fun e w' => e = .returned (.string (Ln.bt (s.data.toList.map up))) ∧ Below w.heap.size w w' := by
  have hcv := run_bytes_of_string w 9 95 5 s Tryz.underlying9 Tryz.underlying95 Tryz.underlying5
  obtain ⟨c, hc⟩ : ∃ c, c = grownCap w s.size 0 5 := ⟨_, rfl⟩
  rw [← hc] at hcv
  have hR0 := hide (Rw.new s w c)
  have hB0 : Hid (Below w.heap.size w (w.drew.alloc (.cells (bytesRow s c) 5 ((bytesRow s c).size, (bytesRow s c).size + 1)))) := ((Below.refl _ _).drew).alloc (Nat.le_refl _) _
  generalize w.drew.alloc (.cells (bytesRow s c) 5 ((bytesRow s c).size, (bytesRow s c).size + 1)) = w1 at *
  clear hc
  go_enter Tryz.func142, Tryz.ntmps142
  go_wp2_with fail
  go_loopw [10] (fun i wr => ∃ k : Nat, k ≤ s.size ∧ i = .int .i64 k ∧ Hid (Rw wr w.heap.size (upTo s.data.toList k)) ∧ Hid (Below w.heap.size w wr)) (fun i _ => s.size - (intOf i).toNat)
  case atStart => exact ⟨0, Nat.zero_le _, rfl, by simpa [upTo] using hR0, hB0⟩
  case round =>
    clear hR0 hB0 hcv
    obtain ⟨k, hk, rfl, hR, hB⟩ := hrel
    by_cases hlt : k < s.size
    · have hlt' : (k : Int) < (s.size : Int) := by omega
      have hll : k < s.data.toList.length := hlt
      have hl2 : k < (upTo s.data.toList k).length := by rw [upTo_len]; exact hll
      have hcell := (unhide hR).cell hl2
      rw [upTo_at _ _ hll, show s.data.toList[k] = s[k] from rfl] at hcell
      have hfz := (unhide hR).frozen hl2
      have hset := hide ((unhide hR).set (i := k) (up s.data.toList[k]))
      rw [upTo_set _ _ hll, show s.data.toList[k] = s[k] from rfl] at hset
      have hsame := hide (upTo_same s.data.toList k hll)
      rw [show s.data.toList[k] = s[k] from rfl] at hsame
      have h8 := s[k].toNat_lt
      generalize s[k] = c at *
      by_cases hL : 97 ≤ c.toNat ∧ c.toNat ≤ 122
      · have hu : (up c).toNat = c.toNat - 32 := by
          have h1 : 97 ≤ c ∧ c ≤ 122 := by rw [UInt8.le_iff_toNat_le, UInt8.le_iff_toNat_le]; exact hL
          unfold up
          rw [if_pos h1, UInt8.toNat_sub_of_le _ _ (by rw [UInt8.le_iff_toNat_le]; show 32 ≤ c.toNat; omega)]; rfl
        have hue : ((up c).toNat : Int) = (c.toNat : Int) - 97 + 65 := by omega
        rw [hue] at hset
        have l1 : (97 : Int) ≤ (c.toNat : Int) := by omega
        have l2 : (c.toNat : Int) ≤ 122 := by omega
        have hb2 : Hid (Below w.heap.size w (wr.setCell ⟨w.heap.size, k, none⟩ (.int .u8 ((c.toNat : Int) - 97 + 65)))) := (unhide hB).setCell (p := ⟨w.heap.size, k, none⟩) (Nat.le_refl _) _
        clear hu hue hsame hR hB hL
        go_wp2_with fail
        go_roundw
        case rel => exact ⟨k + 1, by omega, by go_num, hset, hb2⟩
        case measure => simp [intOf]; omega
      · have hu : up c = c := by
          unfold up
          rw [if_neg (fun h => hL ⟨by have := UInt8.le_iff_toNat_le.1 h.1; exact this, by have := UInt8.le_iff_toNat_le.1 h.2; exact this⟩)]
        rw [unhide hsame hu] at hR
        clear hset hsame hu
        rcases (show ¬ (97 : Int) ≤ (c.toNat : Int) ∨ ((97 : Int) ≤ (c.toNat : Int) ∧ ¬ (c.toNat : Int) ≤ 122) by omega) with l1 | ⟨l1, l2⟩
        · clear hL
          go_wp2_with fail
          go_roundw
          case rel => exact ⟨k + 1, by omega, by go_num, hR, hB⟩
          case measure => simp [intOf]; omega
        · clear hL
          go_wp2_with fail
          go_roundw
          case rel => exact ⟨k + 1, by omega, by go_num, hR, hB⟩
          case measure => simp [intOf]; omega
    · rw [upTo_all _ _ (show s.data.toList.length ≤ k by have : s.data.toList.length = s.size := rfl; omega)] at hR
      have hbk := (unhide hR).back (c := c)
      rw [List.length_map, show s.data.toList.length = s.size from rfl] at hbk
      obtain ⟨R, hR1⟩ : ∃ R, R = Ln.bt (s.data.toList.map up) := ⟨_, rfl⟩
      rw [← hR1] at hbk
      have HR := hide hR1
      clear hR hR1
      go_wp2_with fail
      go_ret
      exact ⟨by rw [← unhide HR]; rfl, unhide hB⟩

/-- f makes a text such as φ says, in every world that has grown out of this one -/
def Fit (W : World) (f : Value) (φ : Bs → Bs) : Prop :=
  ∃ id cap, f = .func (.func id) #[] cap ∧ (∀ args w, (callFunc id args).run Tryz.prog w = .ok (.enter id args) w) ∧ (∀ s, (φ s).length ≤ s.length) ∧
    ∀ (W' : World), Below W.heap.size W W' → ∀ s : ByteArray, s.size ≤ 1073741824 → Calls Tryz.prog id (#[.string s] ++ cap) W' fun e w' => e = .returned (.string (Ln.bt (φ s.data.toList))) ∧ Below W'.heap.size W' w'
theorem Fit.below {W W1 : World} {f : Value} {φ : Bs → Bs} (h : Fit W f φ) (hB : Below W.heap.size W W1) : Fit W1 f φ := by
  obtain ⟨id, cap, h1, h2, h3, h4⟩ := h
  exact ⟨id, cap, h1, h2, h3, fun W' hB' => h4 W' (hB.trans (hB'.mono hB.size))⟩
theorem join_len (b : Bs) : ∀ l : List Bs, ∀ k, (join b (l.take k)).length ≤ (join b l).length
  | [], _ => by simp [join]
  | [x], 0 => by simp [join]
  | [x], k + 1 => by simp [join]
  | x :: y :: l, 0 => by simp [join]
  | x :: y :: l, 1 => by simp [join]
  | x :: y :: l, k + 2 => by
    have := join_len b (y :: l) (k + 1)
    simp only [List.take_succ_cons, join, List.length_append] at this ⊢
    omega
theorem join_drop (b : Bs) (l : List Bs) (k : Nat) : (join b (l.drop k)).length ≤ (join b l).length := by
  by_cases h : k < l.length
  · rw [join_rest b l k h]; simp
  · rw [List.drop_eq_nil_of_le (by omega)]; simp [join]
theorem key_len (o : Ord) (s : Bs) : (key o s).length ≤ s.length := by
  have hj := fields_join o s
  unfold key
  split
  · simp
  · split
    · exact Nat.le_refl _
    · have h1 := join_drop (btw o) (fields o s) (o.fr.toNat - 1)
      rw [hj] at h1
      simp only
      split
      · exact h1
      · exact Nat.le_trans (join_len _ _ _) h1
theorem cell_lt {W : World} {x : Nat} {v : Value} (h : W.cell? ⟨x, 0, none⟩ = some v) : x < W.heap.size := by
  by_cases hx : x < W.heap.size
  · exact hx
  · have h2 : W.heap[x]? = none := Array.getElem?_eq_none (by omega)
    simp [World.cell?, h2] at h
theorem fit1_any (o : Ord) (b : Nat) (s : ByteArray) (w : World) (hb : w.heap[b]? = some (.cells #[.bool o.num, .bool o.fold, .bool o.bls, .bool o.rev, .int .i64 o.fr, .int .i64 o.to, .int .u8 (o.sep.toNat : Int)] 23 (0, 0))) (hs : s.size ≤ 1073741824) :
    Calls Tryz.prog 139 #[.string s, .pointer (some ⟨b, 0, none⟩)] w fun e w' => e = .returned (.string (Ln.bt (key o s.data.toList))) ∧ Below w.heap.size w w' := by
  have C := hide (key_any o s w hs)
  unfold ov at C
  have q0 : w.cell? ⟨b, 0, none⟩ = some (.bool o.num) := cell_of_row _ _ 0 _ _ _ hb
  have q1 : w.cell? ⟨b, 1, none⟩ = some (.bool o.fold) := cell_of_row _ _ 1 _ _ _ hb
  have q2 : w.cell? ⟨b, 2, none⟩ = some (.bool o.bls) := cell_of_row _ _ 2 _ _ _ hb
  have q3 : w.cell? ⟨b, 3, none⟩ = some (.bool o.rev) := cell_of_row _ _ 3 _ _ _ hb
  have q4 : w.cell? ⟨b, 4, none⟩ = some (.int .i64 o.fr) := cell_of_row _ _ 4 _ _ _ hb
  have q5 : w.cell? ⟨b, 5, none⟩ = some (.int .i64 o.to) := cell_of_row _ _ 5 _ _ _ hb
  have q6 : w.cell? ⟨b, 6, none⟩ = some (.int .u8 (o.sep.toNat : Int)) := cell_of_row _ _ 6 _ _ _ hb
  clear hb
  go_enter Tryz.func139, Tryz.ntmps139
  go_wp2_with fail
  refine (unhide C).mono ?_
  rintro e w1 ⟨rfl, b1⟩
  go_wp2_with fail
  go_ret
  exact ⟨rfl, b1⟩
theorem fit2_any (s : ByteArray) (w : World) :
    Calls Tryz.prog 141 #[.string s] w fun e w' => e = .returned (.string (Ln.bt (s.data.toList.dropWhile bl))) ∧ Below w.heap.size w w' := by
  have C := hide (trimBlanks_any s w)
  go_enter Tryz.func141, Tryz.ntmps141
  go_wp2_with fail
  refine (unhide C).mono ?_
  rintro e w1 ⟨rfl, b1⟩
  go_wp2_with fail
  go_ret
  exact ⟨rfl, b1⟩
set_option maxHeartbeats 400000 in
theorem then1_any {W0 : World} {f g : Value} {φ ψ : Bs → Bs} (hf : Fit W0 f φ) (hg : Fit W0 g ψ) (x y : Nat) (s : ByteArray) (w : World) (hB : Below W0.heap.size W0 w) (hx : w.cell? ⟨x, 0, none⟩ = some g) (hy : w.cell? ⟨y, 0, none⟩ = some f) (hs : s.size ≤ 1073741824) :
    Calls Tryz.prog 160 #[.string s, .pointer (some ⟨x, 0, none⟩), .pointer (some ⟨y, 0, none⟩)] w fun e w' => e = .returned (.string (Ln.bt (ψ (φ s.data.toList)))) ∧ Below w.heap.size w w' := by
  obtain ⟨i1, c1, rfl, e1, l1, k1⟩ := hf
  obtain ⟨i2, c2, rfl, e2, l2, k2⟩ := hg
  have hs2 : (Ln.bt (φ s.data.toList)).size ≤ 1073741824 := Nat.le_trans (l1 _) hs
  have hxl : x < w.heap.size := cell_lt hx
  have hyl : y < w.heap.size := cell_lt hy
  have K1 : Hid (∀ W', (W'.cell? ⟨x, 0, none⟩ = some (.func (.func i2) #[] c2) ∧ W'.cell? ⟨y, 0, none⟩ = some (.func (.func i1) #[] c1) ∧ Below w.heap.size w W') → Calls Tryz.prog i1 (#[.string s] ++ c1) W' fun e w' => e = .returned (.string (Ln.bt (φ s.data.toList))) ∧ (w'.cell? ⟨x, 0, none⟩ = some (.func (.func i2) #[] c2) ∧ w'.cell? ⟨y, 0, none⟩ = some (.func (.func i1) #[] c1) ∧ Below w.heap.size w w')) := fun W' h =>
    (k1 W' (hB.trans (h.2.2.mono hB.size)) s hs).mono fun e w' h2 => ⟨h2.1, (h2.2.cell (p := ⟨x, 0, none⟩) (Nat.lt_of_lt_of_le hxl h.2.2.size)).trans h.1, (h2.2.cell (p := ⟨y, 0, none⟩) (Nat.lt_of_lt_of_le hyl h.2.2.size)).trans h.2.1, h.2.2.trans (h2.2.mono h.2.2.size)⟩
  have K2 : Hid (∀ W', (W'.cell? ⟨x, 0, none⟩ = some (.func (.func i2) #[] c2) ∧ W'.cell? ⟨y, 0, none⟩ = some (.func (.func i1) #[] c1) ∧ Below w.heap.size w W') → Calls Tryz.prog i2 (#[.string (Ln.bt (φ s.data.toList))] ++ c2) W' fun e w' => e = .returned (.string (Ln.bt (ψ (φ s.data.toList)))) ∧ (w'.cell? ⟨x, 0, none⟩ = some (.func (.func i2) #[] c2) ∧ w'.cell? ⟨y, 0, none⟩ = some (.func (.func i1) #[] c1) ∧ Below w.heap.size w w')) := fun W' h =>
    (k2 W' (hB.trans (h.2.2.mono hB.size)) _ hs2).mono fun e w' h2 => ⟨h2.1, (h2.2.cell (p := ⟨x, 0, none⟩) (Nat.lt_of_lt_of_le hxl h.2.2.size)).trans h.1, (h2.2.cell (p := ⟨y, 0, none⟩) (Nat.lt_of_lt_of_le hyl h.2.2.size)).trans h.2.1, h.2.2.trans (h2.2.mono h.2.2.size)⟩
  clear k1 k2 l1 l2 hs2
  generalize Ln.bt (φ s.data.toList) = A at *
  generalize Ln.bt (ψ (φ s.data.toList)) = B at *
  have hBd : Below w.heap.size w w.drew := (Below.refl _ _).drew
  clear hB
  go_enter Tryz.func160, Tryz.ntmps160
  go_wp2_with fail
  go_region_held3 (fun w' => w'.cell? ⟨x, 0, none⟩ = some (.func (.func i2) #[] c2) ∧ w'.cell? ⟨y, 0, none⟩ = some (.func (.func i1) #[] c1) ∧ Below w.heap.size w w') (first | assumption | go_keep)
    (first | (with_reducible refine (unhide K1 _ (by assumption)).mono ?_; rintro e w' ⟨rfl, hS1⟩) | (with_reducible refine (unhide K2 _ (by assumption)).mono ?_; rintro e w' ⟨rfl, hS2⟩))
  go_wp2_with fail
  go_ret
  exact ⟨rfl, (by assumption : w'.cell? ⟨x, 0, none⟩ = some (.func (.func i2) #[] c2) ∧ w'.cell? ⟨y, 0, none⟩ = some (.func (.func i1) #[] c1) ∧ Below w.heap.size w w').2.2⟩

set_option maxHeartbeats 400000 in
theorem then_any {f g : Value} {φ ψ : Bs → Bs} (w : World) (hf : Fit w f φ) (hg : Fit w g ψ) :
    Calls Tryz.prog 140 #[f, g] w fun e w' => ∃ v, e = .returned v ∧ Fit w' v (fun s => ψ (φ s)) ∧ Below w.heap.size w w' := by
  have hmf : ∀ (fn : Fn) (first cap : Array Value) (w : World), (Instr.makeFunc fn first cap).run Tryz.prog w = .ok (.func fn first cap) w := fun _ _ _ _ => rfl
  have HF := hide hf
  have HG := hide hg
  obtain ⟨i1, c1, rfl, -, l1, -⟩ := hf
  obtain ⟨i2, c2, rfl, -, l2, -⟩ := hg
  have hl : Hid (∀ s, (ψ (φ s)).length ≤ s.length) := fun s => Nat.le_trans (l2 _) (l1 s)
  clear l1 l2
  go_enter Tryz.func140, Tryz.ntmps140
  go_wp2_with fail
  go_ret
  have hB : Below w.heap.size w ((w.alloc (.cells #[.func (.func i1) #[] c1] 183)).alloc (.cells #[.func (.func i2) #[] c2] 183)) := ((Below.refl _ _).alloc (Nat.le_refl _) _).alloc (by simp) _
  refine ⟨_, rfl, ⟨_, _, rfl, enters_of Tryz.func160 (by kernel_rfl) rfl, unhide hl, fun W' hB' s hs => ?_⟩, hB⟩
  have k1 : ((w.alloc (.cells #[.func (.func i1) #[] c1] 183)).alloc (.cells #[.func (.func i2) #[] c2] 183)).heap[w.heap.size]? = some (.cells #[.func (.func i1) #[] c1] 183 (0, 0)) := (Below.heap_alloc _ _ _ (by simp)).trans (heap_alloc_new w _)
  have k2 := heap_alloc_new (w.alloc (.cells #[.func (.func i1) #[] c1] 183)) (.cells #[.func (.func i2) #[] c2] 183)
  rw [World.size_alloc] at k2
  exact then1_any (unhide HF) (unhide HG) (w.heap.size + 1) w.heap.size s W' (hB.trans (hB'.mono hB.size)) (cell_of_row _ _ _ _ _ _ ((hB'.block _ (by simp)).trans k2)) (cell_of_row _ _ _ _ _ _ ((hB'.block _ (by simp; omega)).trans k1)) hs

/-- all that an order asks of a line -/
def made (o : Ord) (s : Bs) : Bs := if o.num then key o s else fit o (key o s)
theorem fit_id {o : Ord} (h1 : o.bls = false) (h2 : o.fold = false) (s : Bs) : fit o s = s := by unfold fit; rw [h1, h2]; simp
theorem fit_bl {o : Ord} (h1 : o.bls = true) (h2 : o.fold = false) (s : Bs) : fit o s = s.dropWhile bl := by unfold fit; rw [h1, h2]; simp
theorem fit_up1 {o : Ord} (h1 : o.bls = false) (h2 : o.fold = true) (s : Bs) : fit o s = s.map up := by unfold fit; rw [h1, h2]; simp
theorem fit_two {o : Ord} (h1 : o.bls = true) (h2 : o.fold = true) (s : Bs) : fit o s = (s.dropWhile bl).map up := by unfold fit; rw [h1, h2]; simp

set_option maxRecDepth 100000 in
set_option maxHeartbeats 800000 in
theorem fitFor_any (o : Ord) (w : World) :
    Calls Tryz.prog 126 #[ov o] w fun e w' => ∃ v, e = .returned v ∧ Fit w' v (made o) ∧ Below w.heap.size w w' := by
  have hmf : ∀ (fn : Fn) (first cap : Array Value) (w : World), (Instr.makeFunc fn first cap).run Tryz.prog w = .ok (.func fn first cap) w := fun _ _ _ _ => rfl
  obtain ⟨oc, hoc⟩ : ∃ oc, oc = #[Value.bool o.num, .bool o.fold, .bool o.bls, .bool o.rev, .int .i64 o.fr, .int .i64 o.to, .int .u8 (o.sep.toNat : Int)] := ⟨_, rfl⟩
  have F0 : Hid (∀ W, Below (w.alloc (.cells oc 23)).heap.size (w.alloc (.cells oc 23)) W → Fit W (.func (.func 139) #[] #[.pointer (some ⟨w.heap.size, 0, none⟩)]) (key o)) := fun W hW =>
    ⟨_, _, rfl, enters_of Tryz.func139 (by kernel_rfl) rfl, key_len o, fun W' hB' s hs => fit1_any o w.heap.size s W' (by rw [← hoc]; exact (hB'.block _ (by have := hW.size; simp at this; omega)).trans ((hW.block _ (by simp)).trans (heap_alloc_new w _))) hs⟩
  have F2 : Hid (∀ W, Fit W (.func (.func 141) #[] #[]) (fun s => s.dropWhile bl)) := fun W =>
    ⟨_, _, rfl, enters_of Tryz.func141 (by kernel_rfl) rfl, fun s => dropWhile_le s, fun W' _ s _ => fit2_any s W'⟩
  have F3 : Hid (∀ W, Fit W (.func (.func 142) #[] #[]) (fun s => s.map up)) := fun W =>
    ⟨_, _, rfl, enters_of Tryz.func142 (by kernel_rfl) rfl, fun s => by simp, fun W' _ s hs => great_any s W' hs⟩
  have hB0 : Hid (Below w.heap.size w (w.alloc (.cells oc 23))) := (Below.refl _ _).alloc (Nat.le_refl _) _
  have hz0 : (w.alloc (.cells oc 23)).heap.size = w.heap.size + 1 := by simp
  unfold ov
  obtain ⟨fr, to, sep, num, bls, fold, rev⟩ := o
  simp only at hoc F0 ⊢
  subst hoc
  cases num
  · have hM : Hid (made ⟨fr, to, sep, false, bls, fold, rev⟩ = fun s => fit ⟨fr, to, sep, false, bls, fold, rev⟩ (key ⟨fr, to, sep, false, bls, fold, rev⟩ s)) := by
      show _ = _
      funext s; unfold made; simp
    rw [unhide hM]
    clear hM
    cases bls <;> cases fold
    · have hM : Hid ((fun s => fit ⟨fr, to, sep, false, false, false, rev⟩ (key ⟨fr, to, sep, false, false, false, rev⟩ s)) = (fun s => key ⟨fr, to, sep, false, false, false, rev⟩ s)) := by
        show _ = _
        funext s; exact fit_id rfl rfl _
      rw [unhide hM]
      clear hM
      go_enter Tryz.func126, Tryz.ntmps126
      go_wp2_with fail
      go_ret
      exact ⟨_, rfl, unhide F0 _ (Below.refl _ _), unhide hB0⟩
    · have hM : Hid ((fun s => fit ⟨fr, to, sep, false, false, true, rev⟩ (key ⟨fr, to, sep, false, false, true, rev⟩ s)) = (fun s => (key ⟨fr, to, sep, false, false, true, rev⟩ s).map up)) := by
        show _ = _
        funext s; exact fit_up1 rfl rfl _
      rw [unhide hM]
      clear hM
      go_enter Tryz.func126, Tryz.ntmps126
      go_wp2_with fail
      refine (then_any _ (unhide F0 _ (Below.refl _ _)) (unhide F3 _)).mono ?_
      rintro e w1 ⟨v, rfl, hF, hB⟩
      have HF := hide hF
      obtain ⟨id, cap, rfl, -, -, -⟩ := hF
      have hB1 := hide ((unhide hB0).trans (hB.mono (unhide hB0).size))
      clear hB
      go_wp2_with fail
      go_ret
      exact ⟨_, rfl, unhide HF, unhide hB1⟩
    · have hM : Hid ((fun s => fit ⟨fr, to, sep, false, true, false, rev⟩ (key ⟨fr, to, sep, false, true, false, rev⟩ s)) = (fun s => (key ⟨fr, to, sep, false, true, false, rev⟩ s).dropWhile bl)) := by
        show _ = _
        funext s; exact fit_bl rfl rfl _
      rw [unhide hM]
      clear hM
      go_enter Tryz.func126, Tryz.ntmps126
      go_wp2_with fail
      refine (then_any _ (unhide F0 _ (Below.refl _ _)) (unhide F2 _)).mono ?_
      rintro e w1 ⟨v, rfl, hF, hB⟩
      have q1 : w1.cell? ⟨w.heap.size, 1, none⟩ = some (.bool false) := (hB.cell (p := ⟨w.heap.size, 1, none⟩) (by simp)).trans (cell_of_row _ _ 1 _ _ _ (heap_alloc_new w _))
      have HF := hide hF
      obtain ⟨id, cap, rfl, -, -, -⟩ := hF
      have hB1 := hide ((unhide hB0).trans (hB.mono (unhide hB0).size))
      clear hB
      go_wp2_with fail
      go_ret
      exact ⟨_, rfl, unhide HF, unhide hB1⟩
    · have hM : Hid ((fun s => fit ⟨fr, to, sep, false, true, true, rev⟩ (key ⟨fr, to, sep, false, true, true, rev⟩ s)) = (fun s => ((key ⟨fr, to, sep, false, true, true, rev⟩ s).dropWhile bl).map up)) := by
        show _ = _
        funext s; exact fit_two rfl rfl _
      rw [unhide hM]
      clear hM
      go_enter Tryz.func126, Tryz.ntmps126
      go_wp2_with fail
      refine (then_any _ (unhide F0 _ (Below.refl _ _)) (unhide F2 _)).mono ?_
      rintro e w1 ⟨v, rfl, hF, hB⟩
      have q1 : w1.cell? ⟨w.heap.size, 1, none⟩ = some (.bool true) := (hB.cell (p := ⟨w.heap.size, 1, none⟩) (by simp)).trans (cell_of_row _ _ 1 _ _ _ (heap_alloc_new w _))
      have HF := hide hF
      obtain ⟨id, cap, rfl, -, -, -⟩ := hF
      have hB1 := hide ((unhide hB0).trans (hB.mono (unhide hB0).size))
      clear hB
      go_wp2_with fail
      refine (then_any _ (unhide HF) (unhide F3 _)).mono ?_
      rintro e w2 ⟨v2, rfl, hF2, hB2⟩
      have HF2 := hide hF2
      obtain ⟨id2, cap2, rfl, -, -, -⟩ := hF2
      have hB3 := hide ((unhide hB1).trans (hB2.mono (unhide hB1).size))
      clear hB2
      go_wp2_with fail
      go_ret
      exact ⟨_, rfl, unhide HF2, unhide hB3⟩
  · have hM : Hid (made ⟨fr, to, sep, true, bls, fold, rev⟩ = key ⟨fr, to, sep, true, bls, fold, rev⟩) := by
      show _ = _
      funext s; unfold made; simp
    rw [unhide hM]
    clear hM F2 F3
    go_enter Tryz.func126, Tryz.ntmps126
    go_wp2_with fail
    go_ret
    exact ⟨_, rfl, unhide F0 _ (Below.refl _ _), unhide hB0⟩

theorem made_len (o : Ord) (s : Bs) : (made o s).length ≤ s.length := by
  unfold made
  split
  · exact key_len o s
  · refine Nat.le_trans ?_ (key_len o s)
    unfold fit
    rw [List.length_map]
    split
    · exact dropWhile_le _
    · exact Nat.le_refl _
theorem cmp_turn (a b : Bs) : cmpL b a = -cmpL a b := good_cmpL.tn a b
theorem num_turn (a b : Bs) : number b a = -number a b := good_number.tn a b

set_option maxRecDepth 100000 in
set_option maxHeartbeats 800000 in
theorem comp_any (o : Ord) (a b : ByteArray) (w : World) (ha : a.size ≤ 1073741824) (hb : b.size ≤ 1073741824) :
    Calls Tryz.prog 83 #[ov o, .string a, .string b] w fun e w' => e = .returned (.int .i64 (compare o a.data.toList b.data.toList)) ∧ Below w.heap.size w w' := by
  have C1 := hide (fun W => check_any o W)
  have C2 := hide (fun W => fitFor_any o W)
  obtain ⟨A, hA⟩ : ∃ A, A = Ln.bt (made o a.data.toList) := ⟨_, rfl⟩
  obtain ⟨B, hB⟩ : ∃ B, B = Ln.bt (made o b.data.toList) := ⟨_, rfl⟩
  have zA : A.size ≤ 1073741824 := by rw [hA]; exact Nat.le_trans (made_len o _) ha
  have zB : B.size ≤ 1073741824 := by rw [hB]; exact Nat.le_trans (made_len o _) hb
  obtain ⟨r, hr⟩ : ∃ r, r = compare o a.data.toList b.data.toList := ⟨_, rfl⟩
  have N1 : Hid (∀ W, okO o = true → o.num = true → o.rev = false → Calls Tryz.prog 127 #[.string A, .string B] W fun e w' => e = .returned (.int .i64 r) ∧ Below W.heap.size W w') := fun W h1 h2 h3 => by
    have e : r = number A.data.toList B.data.toList := by rw [hr, hA, hB]; unfold compare made; simp [h1, h2, h3]; rfl
    rw [e]; exact number_any A B W zA zB
  have N2 : Hid (∀ W, okO o = true → o.num = true → o.rev = true → Calls Tryz.prog 127 #[.string B, .string A] W fun e w' => e = .returned (.int .i64 r) ∧ Below W.heap.size W w') := fun W h1 h2 h3 => by
    have e : r = number B.data.toList A.data.toList := by rw [num_turn, hr, hA, hB]; unfold compare made; simp [h1, h2, h3]; rfl
    rw [e]; exact number_any B A W zB zA
  have S1 : Hid (∀ W, okO o = true → o.num = false → o.rev = false → Calls Tryz.prog 75 #[.string A, .string B] W fun e w' => e = .returned (.int .i64 r) ∧ w' = W) := fun W h1 h2 h3 => by
    have e : r = cmpL A.data.toList B.data.toList := by rw [hr, hA, hB]; unfold compare made; simp [h1, h2, h3]; rfl
    rw [e]; exact compare_any A B W
  have S2 : Hid (∀ W, okO o = true → o.num = false → o.rev = true → Calls Tryz.prog 75 #[.string B, .string A] W fun e w' => e = .returned (.int .i64 r) ∧ w' = W) := fun W h1 h2 h3 => by
    have e : r = cmpL B.data.toList A.data.toList := by rw [cmp_turn, hr, hA, hB]; unfold compare made; simp [h1, h2, h3]; rfl
    rw [e]; exact compare_any B A W
  have hr0 : Hid (okO o = false → r = 0) := fun h => by rw [hr]; unfold compare; rw [if_pos h]
  rw [← hr]
  have HA := hide hA
  have HB := hide hB
  clear hr zA zB hA hB
  obtain ⟨oc, hoc⟩ : ∃ oc, oc = #[Value.bool o.num, .bool o.fold, .bool o.bls, .bool o.rev, .int .i64 o.fr, .int .i64 o.to, .int .u8 (o.sep.toNat : Int)] := ⟨_, rfl⟩
  have hk0 : Hid ((w.alloc (.cells oc 23)).heap[w.heap.size]? = some (.cells oc 23 (0, 0))) := heap_alloc_new w _
  have hB0 : Hid (Below w.heap.size w (w.alloc (.cells oc 23))) := (Below.refl _ _).alloc (Nat.le_refl _) _
  unfold ov at *
  subst hoc
  go_enter Tryz.func83, Tryz.ntmps83
  go_wp2_with fail
  refine (unhide C1 _).mono ?_
  rintro e w1 ⟨rfl, b1⟩
  have q1 := hide ((b1.block _ (by simp)).trans (unhide hk0))
  have hB1 := hide ((unhide hB0).trans (b1.mono (unhide hB0).size))
  have z1 : w.heap.size < w1.heap.size := by have := b1.size; simp at this; omega
  clear b1 hk0 hB0 C1
  cases hok : okO o
  · have h0 := unhide hr0 hok
    subst h0
    clear N1 N2 S1 S2 C2 hr0 q1
    go_wp2_with fail
    go_ret
    exact ⟨rfl, unhide hB1⟩
  · have o0 : w1.cell? ⟨w.heap.size, 0, none⟩ = some (.bool o.num) := cell_of_row _ _ 0 _ _ _ (unhide q1)
    have o1 : w1.cell? ⟨w.heap.size, 1, none⟩ = some (.bool o.fold) := cell_of_row _ _ 1 _ _ _ (unhide q1)
    have o2 : w1.cell? ⟨w.heap.size, 2, none⟩ = some (.bool o.bls) := cell_of_row _ _ 2 _ _ _ (unhide q1)
    have o3 : w1.cell? ⟨w.heap.size, 3, none⟩ = some (.bool o.rev) := cell_of_row _ _ 3 _ _ _ (unhide q1)
    have o4 : w1.cell? ⟨w.heap.size, 4, none⟩ = some (.int .i64 o.fr) := cell_of_row _ _ 4 _ _ _ (unhide q1)
    have o5 : w1.cell? ⟨w.heap.size, 5, none⟩ = some (.int .i64 o.to) := cell_of_row _ _ 5 _ _ _ (unhide q1)
    have o6 : w1.cell? ⟨w.heap.size, 6, none⟩ = some (.int .u8 (o.sep.toNat : Int)) := cell_of_row _ _ 6 _ _ _ (unhide q1)
    clear hr0
    go_wp2_with fail
    refine (unhide C2 _).mono ?_
    rintro e w2 ⟨f, rfl, ⟨id, cap, rfl, he, -, hc⟩, b2⟩
    clear o0 o1 o2 o3 o4 o5 o6 C2
    have q2 := hide ((b2.block _ z1).trans (unhide q1))
    have hB2 := hide ((unhide hB1).trans (b2.mono (unhide hB1).size))
    have z2 : w.heap.size < w2.heap.size := Nat.lt_of_lt_of_le z1 b2.size
    have K1 := hide (hc w2 (Below.refl _ _) a ha)
    have K2 := hide (fun W h => hc W h b hb)
    rw [← unhide HA] at K1
    rw [← unhide HB] at K2
    clear hc b2 q1 hB1 z1 HA HB
    go_wp2_with fail
    refine (unhide K1).mono ?_
    rintro e w3 ⟨rfl, b3⟩
    have q3 := hide ((b3.block _ z2).trans (unhide q2))
    have hB3 := hide ((unhide hB2).trans (b3.mono (unhide hB2).size))
    have z3 : w.heap.size < w3.heap.size := Nat.lt_of_lt_of_le z2 b3.size
    have K3 := hide (unhide K2 w3 b3)
    clear b3 K1 K2 q2 hB2 z2
    go_wp2_with fail
    refine (unhide K3).mono ?_
    rintro e w4 ⟨rfl, b4⟩
    have q4 := (b4.block _ z3).trans (unhide q3)
    have hB4 := hide ((unhide hB3).trans (b4.mono (unhide hB3).size))
    have p0 : w4.cell? ⟨w.heap.size, 0, none⟩ = some (.bool o.num) := cell_of_row _ _ 0 _ _ _ q4
    have p3 : w4.cell? ⟨w.heap.size, 3, none⟩ = some (.bool o.rev) := cell_of_row _ _ 3 _ _ _ q4
    clear b4 K3 q3 hB3 z3 q4
    have X1 := hide (fun W => unhide N1 W hok)
    have X2 := hide (fun W => unhide N2 W hok)
    have X3 := hide (fun W => unhide S1 W hok)
    have X4 := hide (fun W => unhide S2 W hok)
    clear N1 N2 S1 S2 hok
    cases hn : o.num <;> cases hv : o.rev
    · have Y := hide (fun W => unhide X3 W hn hv)
      rw [hn] at p0
      rw [hv] at p3
      clear X1 X2 X3 X4
      go_wp2_with fail
      refine (unhide Y _).mono ?_
      rintro e w5 ⟨rfl, rfl⟩
      go_wp2_with fail
      go_ret
      exact ⟨rfl, unhide hB4⟩
    · have Y := hide (fun W => unhide X4 W hn hv)
      rw [hn] at p0
      rw [hv] at p3
      clear X1 X2 X3 X4
      go_wp2_with fail
      refine (unhide Y _).mono ?_
      rintro e w5 ⟨rfl, rfl⟩
      go_wp2_with fail
      go_ret
      exact ⟨rfl, unhide hB4⟩
    · have Y := hide (fun W => unhide X1 W hn hv)
      rw [hn] at p0
      rw [hv] at p3
      clear X1 X2 X3 X4
      go_wp2_with fail
      refine (unhide Y _).mono ?_
      rintro e w5 ⟨rfl, b5⟩
      go_wp2_with fail
      go_ret
      exact ⟨rfl, (unhide hB4).trans (b5.mono (unhide hB4).size)⟩
    · have Y := hide (fun W => unhide X2 W hn hv)
      rw [hn] at p0
      rw [hv] at p3
      clear X1 X2 X3 X4
      go_wp2_with fail
      refine (unhide Y _).mono ?_
      rintro e w5 ⟨rfl, b5⟩
      go_wp2_with fail
      go_ret
      exact ⟨rfl, (unhide hB4).trans (b5.mono (unhide hB4).size)⟩
end Go.Proofs.YtmpppdbomdepoaaGreatDoor.Ky
