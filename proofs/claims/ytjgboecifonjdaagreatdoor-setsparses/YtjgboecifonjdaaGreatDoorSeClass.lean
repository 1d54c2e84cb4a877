/- What between, either and without answer: functions that say whether a byte is one. -/
import Derived.Test.YtjgboecifonjdaaGreatDoorSePlain
import Derived.WalkSpells
import Derived.MapKept
import Derived.Carry
namespace Go.Proofs.YtjgboecifonjdaaGreatDoor.Se
open Go.RowKit

/-- block k holds the cells c -/
def At (w : World) (k : Nat) (c : Array Value) : Prop := ∃ e z, w.heap[k]? = some (.cells c e z)
theorem At.cell {w : World} {k : Nat} {c : Array Value} (h : At w k c) (i : Nat) : w.cell? ⟨k, i, none⟩ = c[i]? := by
  obtain ⟨e, z, h⟩ := h
  exact cell_of_row _ _ _ _ _ _ h
theorem At.lt {w : World} {k : Nat} {c : Array Value} (h : At w k c) : k < w.heap.size := by
  obtain ⟨e, z, h⟩ := h
  exact (Array.getElem?_eq_some_iff.1 h).1
theorem At.new (w : World) (c : Array Value) (e : TypeId) : At (w.alloc (.cells c e)) w.heap.size c := ⟨e, _, heap_alloc_new w _⟩
/-- cells stay as they are -/
def Kc (w w' : World) : Prop := w.heap.size ≤ w'.heap.size ∧ ∀ k c, At w k c → w'.heap[k]? = w.heap[k]?
theorem Kc.at {w w' : World} (h : Kc w w') {k : Nat} {c : Array Value} (ha : At w k c) : At w' k c := by
  have := h.2 k c ha
  obtain ⟨e, z, ha⟩ := ha
  exact ⟨e, z, this.trans ha⟩
theorem Kc.refl (w : World) : Kc w w := ⟨Nat.le_refl _, fun _ _ _ => rfl⟩
theorem Kc.trans {x y z : World} (h : Kc x y) (h' : Kc y z) : Kc x z := ⟨Nat.le_trans h.1 h'.1, fun k c ha => (h'.2 k c (h.at ha)).trans (h.2 k c ha)⟩
theorem Kc.of {w w' : World} (h : Below w.heap.size w w') : Kc w w' := ⟨h.size, fun k _ ha => h.block k ha.lt⟩
theorem Kc.alloc (w : World) (o : Obj) : Kc w (w.alloc o) := .of ((Below.refl _ _).alloc (Nat.le_refl _) _)
/-- f says p of every byte, in every world that keeps the cells that lie here -/
def Cls (w : World) (f : Value) (p : UInt8 → Bool) : Prop :=
  ∃ id cap, f = .func (.func id) #[] cap ∧ (∀ args w', (callFunc id args).run Tryz.prog w' = .ok (.enter id args) w') ∧
    ∀ w' (c : UInt8), Kc w w' → Calls Tryz.prog id (#[.int .u8 (c.toNat : Int)] ++ cap) w' fun e w'' => e = .returned (.bool (p c)) ∧ Below w'.heap.size w' w''
theorem Cls.kc {w w' : World} {f : Value} {p : UInt8 → Bool} (h : Cls w f p) (hb : Kc w w') : Cls w' f p := by
  obtain ⟨id, cap, h1, h2, h3⟩ := h
  exact ⟨id, cap, h1, h2, fun w'' c hb' => h3 w'' c (hb.trans hb')⟩
theorem Cls.below {w w' : World} {f : Value} {p : UInt8 → Bool} (h : Cls w f p) (hb : Below w.heap.size w w') : Cls w' f p := h.kc (.of hb)
theorem u8_le (a b : UInt8) : decide (a ≤ b) = decide ((a.toNat : Int) ≤ (b.toNat : Int)) := by
  congr 1
  rw [UInt8.le_iff_toNat_le]; simp

theorem between1_any (a b c : UInt8) (x y : Nat) (w : World) (ha : w.cell? ⟨x, 0, none⟩ = some (.int .u8 a.toNat)) (hb : w.cell? ⟨y, 0, none⟩ = some (.int .u8 b.toNat)) :
    Calls Tryz.prog 83 #[.int .u8 c.toNat, .pointer (some ⟨x, 0, none⟩), .pointer (some ⟨y, 0, none⟩)] w fun e w' => e = .returned (.bool (bt a b c)) ∧ w' = w := by
  unfold bt
  rw [u8_le, u8_le]
  by_cases h1 : (a.toNat : Int) ≤ (c.toNat : Int)
  · go_enter Tryz.func83, Tryz.ntmps83
    go_wp2
    go_ret
    exact ⟨by simp [h1], rfl⟩
  · go_enter Tryz.func83, Tryz.ntmps83
    go_wp2
    go_ret
    have : ¬ a.toNat ≤ c.toNat := by omega
    exact ⟨by simp [this], rfl⟩
theorem between_any (a b : UInt8) (w : World) :
    Calls Tryz.prog 52 #[.int .u8 a.toNat, .int .u8 b.toNat] w fun e w' => (∃ f, e = .returned f ∧ Cls w' f (bt a b)) ∧ Below w.heap.size w w' := by
  have hmf : ∀ (fn : Fn) (first cap : Array Value) (w : World), (Instr.makeFunc fn first cap).run Tryz.prog w = .ok (.func fn first cap) w := fun _ _ _ _ => rfl
  go_enter Tryz.func52, Tryz.ntmps52
  go_wp2
  go_ret
  refine ⟨⟨_, rfl, _, _, rfl, ?_, ?_⟩, ?_⟩
  · intro args w'; simp [go_sem]
  · intro w' c hb
    have h1 := (hb.at ((Kc.alloc _ _).at (At.new w #[.int .u8 (a.toNat : Int)] 5))).cell 0
    have h2 := (hb.at (At.new (w.alloc (.cells #[.int .u8 (a.toNat : Int)] 5)) #[.int .u8 (b.toNat : Int)] 5)).cell 0
    rw [World.size_alloc] at h2
    exact (between1_any a b c _ _ w' h1 h2).mono fun e w'' h => ⟨h.1, h.2 ▸ Below.refl _ _⟩
  · exact ((Below.refl _ _).alloc (Nat.le_refl _) _).alloc (by simp) _

/-- n functions lie at g, and say what ps say -/
def Fs (w : World) (g : Nat) (ps : List (UInt8 → Bool)) : Prop := ∃ fs, At w g fs ∧ ∀ i, i < ps.length → ∃ f, fs[i]? = some f ∧ Cls w f (ps.getD i (fun _ => false))
theorem Fs.kc {w w' : World} {g : Nat} {ps : List (UInt8 → Bool)} (h : Fs w g ps) (hb : Kc w w') : Fs w' g ps := by
  obtain ⟨fs, h1, h2⟩ := h
  refine ⟨fs, hb.at h1, fun i hi => ?_⟩
  obtain ⟨f, h3, h4⟩ := h2 i hi
  exact ⟨f, h3, h4.kc hb⟩
theorem Fs.get {w : World} {g : Nat} {ps : List (UInt8 → Bool)} (h : Fs w g ps) {i : Nat} (hi : i < ps.length) : ∃ f, w.cell? ⟨g, i, none⟩ = some f ∧ Cls w f (ps.getD i (fun _ => false)) := by
  obtain ⟨fs, h1, h2⟩ := h
  obtain ⟨f, h3, h4⟩ := h2 i hi
  exact ⟨f, (h1.cell i).trans h3, h4⟩
theorem Fs.two (w : World) (e : TypeId) {f g : Value} {p q : UInt8 → Bool} (hf : Cls w f p) (hg : Cls w g q) : Fs (w.alloc (.cells #[f, g] e)) w.heap.size [p, q] := by
  refine ⟨_, At.new _ _ _, fun i hi => ?_⟩
  match i, hi with
  | 0, _ => exact ⟨f, rfl, hf.kc (Kc.alloc _ _)⟩
  | 1, _ => exact ⟨g, rfl, hg.kc (Kc.alloc _ _)⟩
theorem Fs.three (w : World) (e : TypeId) {f g h : Value} {p q r : UInt8 → Bool} (hf : Cls w f p) (hg : Cls w g q) (hh : Cls w h r) : Fs (w.alloc (.cells #[f, g, h] e)) w.heap.size [p, q, r] := by
  refine ⟨_, At.new _ _ _, fun i hi => ?_⟩
  match i, hi with
  | 0, _ => exact ⟨f, rfl, hf.kc (Kc.alloc _ _)⟩
  | 1, _ => exact ⟨g, rfl, hg.kc (Kc.alloc _ _)⟩
  | 2, _ => exact ⟨h, rfl, hh.kc (Kc.alloc _ _)⟩
theorem any_drop (ps : List (UInt8 → Bool)) (k : Nat) (c : UInt8) (h : k < ps.length) : (ps.drop k).any (fun p => p c) = (ps.getD k (fun _ => false) c || (ps.drop (k + 1)).any (fun p => p c)) := by
  rw [List.drop_eq_getElem_cons h, List.any_cons]; simp [List.getD, List.getElem?_eq_getElem h]

set_option maxHeartbeats 400000 in
theorem either1_any (ps : List (UInt8 → Bool)) (g x n : Nat) (c : UInt8) (w : World) (hx : w.cell? ⟨x, 0, none⟩ = some (.slice (some ⟨g, 0, none⟩) n n)) (hfs : Fs w g ps) (hl : ps.length = n) (hn : n ≤ 100) :
    Calls Tryz.prog 84 #[.int .u8 c.toNat, .pointer (some ⟨x, 0, none⟩)] w fun e w' => e = .returned (.bool (ps.any fun p => p c)) ∧ Below w.heap.size w w' := by
  have HF := hide hfs
  have HL := hide hl
  clear hfs hl
  go_enter Tryz.func84, Tryz.ntmps84
  go_wp2
  go_loopw [8] (fun i wr => ∃ k : Nat, k ≤ n ∧ i = .int .i64 k ∧ Hid ((ps.any fun p => p c) = (ps.drop k).any fun p => p c) ∧ Below w.heap.size w wr) (fun i _ => n - (intOf i).toNat)
  case atStart => exact ⟨0, Nat.zero_le _, rfl, rfl, Below.refl _ _⟩
  case round =>
    obtain ⟨k, hk, rfl, hr, hnx⟩ := hrel
    have hsz := hnx.size
    by_cases hlt : k < n
    · obtain ⟨f, hc, id, cap, rfl, heg, hcall⟩ := ((unhide HF).kc (.of hnx)).get (i := k) (by rw [unhide HL]; exact hlt)
      have hd := hide (any_drop ps k c (by rw [unhide HL]; exact hlt))
      obtain ⟨q, hq⟩ : ∃ q, q = ps.getD k (fun _ => false) := ⟨_, rfl⟩
      rw [← hq] at hd hcall
      clear hq
      have HC := hide (hcall wr c (Kc.refl _))
      clear hcall
      go_wp2_with fail
      refine (unhide HC).mono ?_
      rintro e w' ⟨rfl, hb'⟩
      have hB : Hid (Below w.heap.size w w') := hnx.trans (hb'.mono hsz)
      clear hb' HC hnx hsz
      cases hq : q c
      · have hf : Hid ((ps.any fun p => p c) = (ps.drop (k + 1)).any fun p => p c) := by rw [unhide hr, unhide hd, hq]; exact rfl
        clear hr hd
        go_wp2_with fail
        go_roundw
        case rel => exact ⟨k + 1, by omega, by go_num, hf, unhide hB⟩
        case measure => simp [intOf]; omega
      · have hf : Hid ((ps.any fun p => p c) = true) := by rw [unhide hr, unhide hd, hq]; exact rfl
        clear hr hd
        go_wp2_with fail
        go_ret
        exact ⟨by rw [unhide hf]; rfl, unhide hB⟩
    · have hf : Hid ((ps.any fun p => p c) = false) := by rw [unhide hr, List.drop_eq_nil_of_le (by rw [unhide HL]; omega)]; rfl
      clear hr
      go_wp2
      go_ret
      exact ⟨by rw [unhide hf]; rfl, hnx⟩
theorem either_any (ps : List (UInt8 → Bool)) (g n : Nat) (w : World) (hfs : Fs w g ps) (hl : ps.length = n) (hn : n ≤ 100) :
    Calls Tryz.prog 53 #[.slice (some ⟨g, 0, none⟩) n n] w fun e w' => (∃ f, e = .returned f ∧ Cls w' f (fun c => ps.any fun p => p c)) ∧ Below w.heap.size w w' := by
  have hmf : ∀ (fn : Fn) (first cap : Array Value) (w : World), (Instr.makeFunc fn first cap).run Tryz.prog w = .ok (.func fn first cap) w := fun _ _ _ _ => rfl
  have hb1 : ∀ o, Below w.heap.size w (w.alloc o) := fun o => (Below.refl _ _).alloc (Nat.le_refl _) _
  go_enter Tryz.func53, Tryz.ntmps53
  go_wp2
  go_ret
  refine ⟨⟨_, rfl, _, _, rfl, ?_, ?_⟩, hb1 _⟩
  · intro args w'; simp [go_sem]
  · intro w' c hb
    exact either1_any ps g _ n c w' ((hb.at (At.new w #[.slice (some ⟨g, 0, none⟩) n n] 144)).cell 0) ((hfs.kc (.of (hb1 _))).kc hb) hl hn

set_option maxHeartbeats 400000 in
theorem without1_any (p q : UInt8 → Bool) (f g : Value) (x y : Nat) (c : UInt8) (w : World) (hx : w.cell? ⟨x, 0, none⟩ = some f) (hy : w.cell? ⟨y, 0, none⟩ = some g) (hf : Cls w f p) (hg : Cls w g q) (hyl : y < w.heap.size) :
    Calls Tryz.prog 85 #[.int .u8 c.toNat, .pointer (some ⟨x, 0, none⟩), .pointer (some ⟨y, 0, none⟩)] w fun e w' => e = .returned (.bool (p c && !q c)) ∧ Below w.heap.size w w' := by
  have HG := hide hg
  clear hg
  obtain ⟨id, cap, rfl, heg, hcall⟩ := hf
  have HC := hide (hcall w c (Kc.refl _))
  clear hcall
  have hnot : ∀ (x : Bool) (w : World), (Op.unary .not (.bool x)).run Tryz.prog w = .ok (.bool (!x)) w := fun _ _ => rfl
  go_enter Tryz.func85, Tryz.ntmps85
  go_wp2_with fail
  refine (unhide HC).mono ?_
  rintro e w' ⟨rfl, hb'⟩
  cases hp : p c
  · go_wp2_with fail
    go_ret
    exact ⟨by simp [hp], hb'⟩
  · obtain ⟨id2, cap2, rfl, heg2, hcall2⟩ := (unhide HG).below hb'
    have HC2 := hide (hcall2 w' c (Kc.refl _))
    have hy2 := (hb'.cell (p := ⟨y, 0, none⟩) hyl).trans hy
    clear hcall2
    go_wp2_with fail
    refine (unhide HC2).mono ?_
    rintro e w2 ⟨rfl, hb2⟩
    go_wp2_with fail
    go_ret
    exact ⟨by simp [hp], hb'.trans (hb2.mono hb'.size)⟩
theorem without_any (p q : UInt8 → Bool) (f g : Value) (w : World) (hf : Cls w f p) (hg : Cls w g q) :
    Calls Tryz.prog 54 #[f, g] w fun e w' => (∃ f, e = .returned f ∧ Cls w' f (fun c => p c && !q c)) ∧ Below w.heap.size w w' := by
  have hmf : ∀ (fn : Fn) (first cap : Array Value) (w : World), (Instr.makeFunc fn first cap).run Tryz.prog w = .ok (.func fn first cap) w := fun _ _ _ _ => rfl
  have hb1 : ∀ o o', Below w.heap.size w ((w.alloc o).alloc o') := fun o o' => ((Below.refl _ _).alloc (Nat.le_refl _) _).alloc (by simp) _
  have HF := hide hf
  have HG := hide hg
  obtain ⟨_, _, rfl, _⟩ := hf
  obtain ⟨_, _, rfl, _⟩ := hg
  go_enter Tryz.func54, Tryz.ntmps54
  go_wp2
  go_ret
  refine ⟨⟨_, rfl, _, _, rfl, ?_, ?_⟩, hb1 _ _⟩
  · intro args w'; simp [go_sem]
  · intro w' c hb
    rename_i i1 c1 _ i2 c2 _
    have a1 := hb.at ((Kc.alloc _ _).at (At.new w #[.func (.func i1) #[] c1] 57))
    have a2 := hb.at (At.new (w.alloc (.cells #[.func (.func i1) #[] c1] 57)) #[.func (.func i2) #[] c2] 57)
    rw [World.size_alloc] at a2
    exact without1_any p q _ _ _ _ c w' (a1.cell 0) (a2.cell 0) (((unhide HF).below (hb1 _ _)).kc hb) (((unhide HG).below (hb1 _ _)).kc hb) a2.lt
end Go.Proofs.YtjgboecifonjdaaGreatDoor.Se
