/-
  The contract of sorted: a row of members sorted by halves.
-/
import Derived.Test.YtlmnkjnplaebgaaMerged
namespace Go.Proofs.Ytlmnkjnplaebgaa
open Go.RowKit Go.Shelf

theorem SlM.take {w : World} {ms : List MB} {b o c : Nat} (h : SlM w ms (.slice (some ⟨b, o, none⟩) ms.length c)) (m : Nat) (hm : m ≤ ms.length) : SlM w (ms.take m) (.slice (some ⟨b, o, none⟩) m c) := by
  obtain ⟨b', o', c', hv, hc, hr, hg⟩ := h
  injection hv with h1 h2 h3
  injection h1 with h1
  injection h1 with h4 h5
  subst h3 h4 h5
  exact ⟨b, o, c, by rw [List.length_take, Nat.min_eq_left hm], by rw [List.length_take, Nat.min_eq_left hm]; omega, hr.take m, fun p hp => hg p (List.mem_of_mem_take hp)⟩

theorem SlM.drop {w : World} {ms : List MB} {b o c : Nat} (h : SlM w ms (.slice (some ⟨b, o, none⟩) ms.length c)) (m : Nat) : SlM w (ms.drop m) (.slice (some ⟨b, o + m * 5, none⟩) (ms.length - m) (c - m)) := by
  obtain ⟨b', o', c', hv, hc, hr, hg⟩ := h
  injection hv with h1 h2 h3
  injection h1 with h1
  injection h1 with h4 h5
  subst h3 h4 h5
  exact ⟨b, o + m * 5, c - m, by rw [List.length_drop], by rw [List.length_drop]; omega, hr.drop m, fun p hp => hg p (List.mem_of_mem_drop hp)⟩

theorem srt_step {α : Type} (lt : α → α → Bool) (n : Nat) (l : List α) (h : ¬ l.length < 2) : srt lt (n + 1) l = mrg lt (srt lt n (l.take (l.length / 2))) (srt lt n (l.drop (l.length / 2))) := by
  show (if l.length < 2 then l else _) = _
  rw [if_neg h]

set_option maxRecDepth 100000 in
set_option maxHeartbeats 4000000 in
theorem sorted_core (f : Nat) (g : MB → MB → Int) (k : Nat) (ms : List MB) (v : Value) (w : World) (hv : SlM w ms v) (hlen : ms.length ≤ 65536)
    (hmg : Hid (∀ (xs ys : List MB) (va vb : Value) (W : World), SlM W xs va → SlM W ys vb → xs.length + ys.length ≤ 65536 → Calls Try.prog 23 #[va, vb, fv f] W fun e W' => ∃ v, e = .returned v ∧ SlM W' (mrg (ltG g) xs ys) v ∧ Below W.heap.size W W'))
    (ih : Hid (2 ≤ ms.length → ∀ (xs : List MB) (va : Value) (W : World), xs.length ≤ ms.length - 1 → SlM W xs va → Calls Try.prog 21 #[va, fv f] W fun e W' => ∃ v, e = .returned v ∧ SlM W' (srt (ltG g) k xs) v ∧ Below W.heap.size W W')) :
    Calls Try.prog 21 #[v, fv f] w fun e w' => ∃ v, e = .returned v ∧ SlM w' (srt (ltG g) (k + 1) ms) v ∧ Below w.heap.size w w' := by
  obtain ⟨b, o, c, rfl, hc, _, _⟩ := id hv
  have HS : Hid (SlM w ms (.slice (some ⟨b, o, none⟩) ms.length c)) := hv
  clear hv
  by_cases h2 : ms.length < 2
  · have Hr : Hid (srt (ltG g) (k + 1) ms = ms) := by show _ = _; unfold srt; rw [if_pos h2]
    generalize srt (ltG g) (k + 1) ms = R at *
    have h2' : (ms.length : Int) < 2 := by omega
    clear ih hmg
    go_enter Try.func21, Try.ntmps21
    go_wp2_with fail
    go_ret
    exact ⟨_, rfl, by rw [Hr.out]; exact HS.out, Below.refl _ _⟩
  · have Hr : Hid (srt (ltG g) (k + 1) ms = mrg (ltG g) (srt (ltG g) k (ms.take (ms.length / 2))) (srt (ltG g) k (ms.drop (ms.length / 2)))) := srt_step _ _ _ h2
    have Ih : Hid _ := ih.out (by omega)
    obtain ⟨h, hh⟩ : ∃ h, h = ms.length / 2 := ⟨_, rfl⟩
    rw [← hh] at Hr
    have hle : h ≤ ms.length := by omega
    have HS1 : Hid (SlM w (ms.take h) (.slice (some ⟨b, o, none⟩) h c)) := HS.out.take h hle
    have HS2 : Hid (SlM w (ms.drop h) (.slice (some ⟨b, o + h * 5, none⟩) (ms.length - h) (c - h))) := HS.out.drop h
    have Hl1 : Hid ((ms.take h).length ≤ ms.length - 1) := by show _ ≤ _; rw [List.length_take]; omega
    have Hl2 : Hid ((ms.drop h).length ≤ ms.length - 1) := by show _ ≤ _; rw [List.length_drop]; omega
    have Hl3 : Hid ((srt (ltG g) k (ms.take h)).length + (srt (ltG g) k (ms.drop h)).length ≤ 65536) := by show _ ≤ _; rw [srt_len, srt_len, List.length_take, List.length_drop]; omega
    generalize srt (ltG g) (k + 1) ms = R at *
    have h2' : ¬ (ms.length : Int) < 2 := by omega
    have hq : ((ms.length : Nat) : Int) / 2 = ((h : Nat) : Int) := by omega
    have hle' : ((h : Nat) : Int) ≤ (ms.length : Nat) := by omega
    have hcc : h ≤ c := by omega
    have hcc' : ((h : Nat) : Int) ≤ (c : Nat) := by omega
    have hcn : ¬ ((c : Nat) : Int) = (h : Nat) := by omega
    have hcn2 : ¬ c = h := by omega
    have hmc : ms.length ≤ c := hc
    have hmc' : (ms.length : Int) ≤ (c : Nat) := by omega
    clear hh ih h2 hc HS
    go_enter Try.func21, Try.ntmps21
    go_wp2_with fail
    go_region_held3 (fun _ => True) (first | trivial | go_keep)
      (first
        | (go_at_call 23; refine (hmg.out _ _ _ _ _ HT1.out HT2.out Hl3.out).mono ?_; rintro e w3 ⟨v3, rfl, hs3, hg3⟩; have hb3 : Below w.heap.size w w3 := hb2.trans (hg3.mono hb2.size); have HT3 : Hid _ := hs3; clear hs3 hg3)
        | (go_at_call 21; refine (Ih.out (ms.drop h) _ _ Hl2.out (HS2.out.keeps hb1)).mono ?_; rintro e w2 ⟨v2, rfl, hs2, hg2⟩; have hb2 : Below w.heap.size w w2 := hb1.trans (hg2.mono hb1.size); have HT2 : Hid (SlM w2 (srt (ltG g) k (ms.drop h)) v2) := hs2; have HT1 : Hid (SlM w2 (srt (ltG g) k (ms.take h)) v1) := HT0.out.keeps hg2; clear hs2 hg2)
        | (go_at_call 21; refine (Ih.out (ms.take h) _ _ Hl1.out (HS1.out.keeps (Below.refl _ _).drew)).mono ?_; rintro e w1 ⟨v1, rfl, hs1, hg1⟩; have hb1 : Below w.heap.size w w1 := (Below.refl _ _).drew.trans hg1; have HT0 : Hid (SlM w1 (srt (ltG g) k (ms.take h)) v1) := hs1; clear hs1 hg1))
    go_wp2_with fail
    go_ret
    exact ⟨_, rfl, by rw [Hr.out]; exact HT3.out, hb3⟩

/-- Members, sorted. -/
theorem sorted6_any (f : Nat) (eg : ∀ args w, (callFunc f args).run Try.prog w = .ok (.enter f args) w) (g : MB → MB → Int)
    (hc : Hid (∀ (p r : MB) (W : World), GoodM W p → GoodM W r → Calls Try.prog f #[.agg #[.int .i64 p.t.kind, .int .i64 p.t.num, .string p.t.text, p.u, .int .u64 p.m], .agg #[.int .i64 r.t.kind, .int .i64 r.t.num, .string r.t.text, r.u, .int .u64 r.m]] W fun e W' => e = .returned (.int .i64 (g p r)) ∧ Grew W W')) :
    ∀ (k : Nat) (ms : List MB) (v : Value) (w : World), SlM w ms v → ms.length ≤ 65536 → ms.length ≤ k + 1 → Calls Try.prog 21 #[v, fv f] w fun e w' => ∃ v, e = .returned v ∧ SlM w' (srt (ltG g) (k + 1) ms) v ∧ Below w.heap.size w w' := by
  have hmg : Hid (∀ (xs ys : List MB) (va vb : Value) (W : World), SlM W xs va → SlM W ys vb → xs.length + ys.length ≤ 65536 → Calls Try.prog 23 #[va, vb, fv f] W fun e W' => ∃ v, e = .returned v ∧ SlM W' (mrg (ltG g) xs ys) v ∧ Below W.heap.size W W') := fun xs ys va vb W h1 h2 h3 => merged_core f eg g xs ys va vb W h1 h2 h3 hc
  intro k
  induction k with
  | zero =>
    intro ms v w hv hlen hk
    exact sorted_core f g 0 ms v w hv hlen hmg (fun h => by omega)
  | succ k ih =>
    intro ms v w hv hlen hk
    exact sorted_core f g (k + 1) ms v w hv hlen hmg (fun _ xs va W hx hs => ih xs va W hs (by omega) (by omega))

end Go.Proofs.Ytlmnkjnplaebgaa
