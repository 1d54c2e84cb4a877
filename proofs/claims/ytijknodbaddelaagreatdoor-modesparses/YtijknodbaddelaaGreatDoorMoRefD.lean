/- What the document's Read and Parse answer. -/
import Derived.Test.YtijknodbaddelaaGreatDoorMoRefC
namespace Go.Proofs.YtijknodbaddelaaGreatDoor.Mo
open Go.RowKit Go.Shelf

set_option maxHeartbeats 1000000 in
set_option maxRecDepth 100000 in
theorem rread_any (s : ByteArray) (w : World) (hs : s.size ≤ 4611686018427387904) :
    Calls Tryz.prog 8 #[.string s] w fun e w' => e = .returned (readV (readP (bs s))) ∧ w' = w := by
  by_cases h1 : s.size < 1
  · have ht : (s.size : Int) < 1 := by omega
    have hn := hide (read_short (s := bs s) (.inl (by rw [bs_len]; exact h1)))
    go_enter Tryz.func8, Tryz.ntmps8
    go_wp2_with fail
    go_ret2
    exact ⟨by rw [unhide hn]; rfl, rfl⟩
  · have ht : ¬ (s.size : Int) < 1 := by omega
    by_cases h4 : 4 < (s.size : Int)
    · have hn := hide (read_short (s := bs s) (.inr (by rw [bs_len]; omega)))
      go_enter Tryz.func8, Tryz.ntmps8
      go_wp2_with fail
      go_ret2
      exact ⟨by rw [unhide hn]; rfl, rfl⟩
    · go_enter Tryz.func8, Tryz.ntmps8
      go_wp2_with fail
      go_loop [4, 5] (fun v4 v5 => ∃ i m : Nat, i ≤ s.size ∧ v5 = .int .i64 i ∧ v4 = .int .i64 m ∧ m < 4096 ∧ Hid (m = valP ((bs s).take i) ∧ ((bs s).take i).all octd = true)) (fun _ v5 => s.size - (intOf v5).toNat)
      case atStart => exact ⟨0, 0, by omega, rfl, rfl, by decide, ⟨rfl, rfl⟩⟩
      case round =>
        obtain ⟨i, m, hi, rfl, rfl, hm, hV⟩ := hrel
        by_cases hlt : i < s.size
        · have hlt' : (i : Int) < (s.size : Int) := by omega
          obtain ⟨c, hce⟩ : ∃ c, c = s[i] := ⟨_, rfl⟩
          have hmem : Hid (c ∈ bs s) := by rw [hce]; show _ ∈ _; rw [bs_split s i hlt]; simp
          have htk := hide (take_bs s i hlt)
          rw [← hce] at htk
          have hsi : s[i] = c := hce.symm
          clear hce
          by_cases ho : octd c = true
          · have hoc : 48 ≤ c.toNat ∧ c.toNat ≤ 55 := by simpa [octd] using ho
            obtain ⟨d, HD⟩ : ∃ d, Hid (d = c.toNat - 48) := ⟨_, rfl⟩
            have hd8 : d < 8 := by rw [unhide HD]; omega
            have hcd : c.toNat = 48 + d := by rw [unhide HD]; omega
            have hV2 : Hid (m * 8 + d = valP ((bs s).take (i + 1)) ∧ ((bs s).take (i + 1)).all octd = true) := by
              rw [unhide htk, valP_snoc, ← (unhide hV).1, ← unhide HD]
              refine ⟨rfl, ?_⟩
              rw [List.all_append, (unhide hV).2]
              simp [ho]
            have hm2 : m * 8 + d < 4096 := by
              have h1 := valP_lt _ (unhide hV2).2
              have h2 : ((bs s).take (i + 1)).length ≤ 4 := by rw [List.length_take, bs_len]; omega
              have h3 : 8 ^ ((bs s).take (i + 1)).length ≤ 8 ^ 4 := Nat.pow_le_pow_right (by decide) h2
              have := (unhide hV2).1
              omega
            have k1 : ¬ (c.toNat : Int) < 48 := by omega
            have k2 : ¬ 55 < (c.toNat : Int) := by omega
            clear ho htk hV hmem HD
            go_wp2_with fail
            go_round
            case rel => exact ⟨i + 1, m * 8 + d, by omega, by go_num, by go_num, hm2, hV2⟩
            case measure => simp [intOf]; omega
          · have hn := hide (read_no (unhide hmem) (by simpa using ho))
            have hr : (c.toNat : Int) < 48 ∨ (¬ (c.toNat : Int) < 48 ∧ 55 < (c.toNat : Int)) := by
              have : ¬ (48 ≤ c.toNat ∧ c.toNat ≤ 55) := by simpa [octd] using ho
              omega
            clear ho htk hV hmem
            rcases hr with k1 | ⟨k1, k2⟩
            all_goals
              go_wp2_with fail
              go_ret2
              exact ⟨by rw [unhide hn]; rfl, rfl⟩
        · have hlt' : ¬ (i : Int) < (s.size : Int) := by omega
          have hV' : m = valP (bs s) ∧ (bs s).all octd = true := by
            have := unhide hV
            rw [List.take_of_length_le (by rw [bs_len]; omega)] at this
            exact this
          by_cases hg : 511 < (m : Int)
          · have hn := hide (read_great (s := bs s) (by omega))
            clear hV hV'
            go_wp2_with fail
            go_ret2
            exact ⟨by rw [unhide hn]; rfl, rfl⟩
          · have hn : Hid (readP (bs s) = some m) := by
              show _ = _
              rw [hV'.1]
              exact read_yes (by rw [bs_len]; omega) (by rw [bs_len]; omega) hV'.2 (by omega)
            clear hV hV'
            go_wp2_with fail
            go_ret2
            exact ⟨by rw [unhide hn]; rfl, rfl⟩
theorem readP_le {s : Bs} {m : Nat} (h : readP s = some m) : m ≤ 511 := by
  unfold readP at h
  split at h
  · rename_i hh
    cases h
    exact hh.2.2.2
  · cases h
theorem oct_parts (m : Nat) (h : m ≤ 511) : octL m = [⟨4, 61, (m : Int) / 64, 0, false⟩, ⟨2, 61, (m : Int) / 8 % 8, 0, false⟩, ⟨1, 61, (m : Int) % 8, 0, false⟩] := by
  have e1 : ((partP m 117 : Nat) : Int) = (m : Int) / 64 := by simp only [partP]; simp; omega
  have e2 : ((partP m 103 : Nat) : Int) = (m : Int) / 8 % 8 := by simp only [partP]; simp; omega
  have e3 : ((partP m 111 : Nat) : Int) = (m : Int) % 8 := by simp only [partP]; simp; omega
  unfold octL
  rw [e1, e2, e3]
/-- b bytes of s are read, the part that is under way begins at a; the clauses ahead of it are l -/
structure Clz (s : Bs) (a b : Nat) (l : List Ch) : Prop where
  ab : a ≤ b
  bs : b ≤ s.length
  clean : ∀ c ∈ (s.drop a).take (b - a), c ≠ 44
  pre : ∃ pre, splitC s = pre ++ splitC (s.drop a) ∧ clausesP pre = some l
theorem Clz.start (s : Bs) : Clz s 0 0 [] := ⟨Nat.le_refl _, Nat.zero_le _, by simp, [], by simp, rfl⟩
theorem take_snoc (s : Bs) (a b : Nat) (hab : a ≤ b) (hb : b < s.length) : (s.drop a).take (b + 1 - a) = (s.drop a).take (b - a) ++ [s[b]] := by
  rw [show b + 1 - a = (b - a) + 1 from by omega, List.take_succ_eq_append_getElem (by rw [List.length_drop]; omega)]
  congr 2
  rw [List.getElem_drop]
  congr 1
  omega
theorem Clz.miss {s : Bs} {a b : Nat} {l : List Ch} {c : UInt8} (h : Clz s a b l) (hc : s[b]? = some c) (hn : c ≠ 44) : Clz s a (b + 1) l := by
  have hb : b < s.length := (List.getElem?_eq_some_iff.1 hc).1
  have he : s[b] = c := (List.getElem?_eq_some_iff.1 hc).2
  refine ⟨by have := h.ab; omega, hb, ?_, h.pre⟩
  intro d hd
  rw [take_snoc s a b h.ab hb, List.mem_append] at hd
  rcases hd with hd | hd
  · exact h.clean d hd
  · simp at hd; rw [hd, he]; exact hn
theorem drop_hit (s : Bs) (a b : Nat) (hab : a ≤ b) (hb : b < s.length) : s.drop a = (s.drop a).take (b - a) ++ s[b] :: s.drop (b + 1) := by
  conv => lhs; rw [← List.take_append_drop (b - a) (s.drop a)]
  rw [List.drop_drop, show a + (b - a) = b from by omega, List.drop_eq_getElem_cons hb]
theorem Clz.hit {s : Bs} {a b : Nat} {l : List Ch} (h : Clz s a b l) (hc : s[b]? = some 44) : splitC (s.drop a) = (s.drop a).take (b - a) :: splitC (s.drop (b + 1)) := by
  have hb : b < s.length := (List.getElem?_eq_some_iff.1 hc).1
  have he : s[b] = 44 := (List.getElem?_eq_some_iff.1 hc).2
  have := drop_hit s a b h.ab hb
  rw [he] at this
  conv => lhs; rw [this]
  exact splitC_hit _ h.clean
theorem Clz.end_ {s : Bs} {a : Nat} {l : List Ch} (h : Clz s a s.length l) : splitC (s.drop a) = [(s.drop a).take (s.length - a)] := by
  have e : (s.drop a).take (s.length - a) = s.drop a := List.take_of_length_le (by rw [List.length_drop]; exact Nat.le_refl _)
  have hc := h.clean
  rw [e] at hc ⊢
  exact splitC_end hc
theorem Clz.no {s : Bs} {a b : Nat} {l : List Ch} (h : Clz s a b l) (hb : s[b]? = some 44 ∨ b = s.length) (hn : clauseP ((s.drop a).take (b - a)) = none) : clausesP (splitC s) = none := by
  obtain ⟨pre, h1, h2⟩ := h.pre
  have hx : ∃ r, splitC (s.drop a) = (s.drop a).take (b - a) :: r := by
    rcases hb with hb | rfl
    · exact ⟨_, h.hit hb⟩
    · exact ⟨[], h.end_⟩
  obtain ⟨r, hr⟩ := hx
  rw [h1, hr, clausesP_app, h2, clausesP, hn]
theorem Clz.comma {s : Bs} {a b : Nat} {l r : List Ch} (h : Clz s a b l) (hb : s[b]? = some 44) (hy : clauseP ((s.drop a).take (b - a)) = some r) : Clz s (b + 1) (b + 1) (l ++ r) := by
  obtain ⟨pre, h1, h2⟩ := h.pre
  have hlt : b < s.length := (List.getElem?_eq_some_iff.1 hb).1
  refine ⟨Nat.le_refl _, hlt, by simp, pre ++ [(s.drop a).take (b - a)], ?_, ?_⟩
  · rw [h1, h.hit hb]; simp
  · rw [clausesP_app, h2]; simp [clausesP, hy]
theorem Clz.last {s : Bs} {a : Nat} {l r : List Ch} (h : Clz s a s.length l) (hy : clauseP ((s.drop a).take (s.length - a)) = some r) : clausesP (splitC s) = some (l ++ r) := by
  obtain ⟨pre, h1, h2⟩ := h.pre
  rw [h1, h.end_, clausesP_app, h2]; simp [clausesP, hy]
theorem clauseP_pos {s : Bs} {r : List Ch} (hyes : clauseP s = some r) : 1 ≤ r.length := by
  unfold clauseP at hyes
  split at hyes
  · cases hyes
  · rename_i st _
    split at hyes
    · rename_i hs; injection hyes with h; subst h
      obtain ⟨ch, hc⟩ := Option.isSome_iff_exists.1 hs
      simp [St.all, hc]
    · cases hyes
theorem Clz.len {s : Bs} {a b : Nat} {l : List Ch} (h : Clz s a b l) : l.length ≤ s.length + 1 := by
  obtain ⟨pre, h1, h2⟩ := h.pre
  have h3 := clausesP_len h2
  have h4 := splitC_len s
  rw [h1, List.map_append, List.sum_append] at h4
  omega
theorem all_len {s : Bs} {l : List Ch} (h : clausesP (splitC s) = some l) : l.length ≤ s.length + 1 := by
  have h3 := clausesP_len h
  have h4 := splitC_len s
  omega
end Go.Proofs.YtijknodbaddelaaGreatDoor.Mo
