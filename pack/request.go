package pack

import "lapidary/api"

// phaseBase leaves a phase three bits, of which the greatest number is no phase's.
const phaseBase = 8

var phaseNames = [...]string{
	api.PhasePlain:   "plain",
	api.PhaseGuard:   "guard",
	api.PhaseGuarded: "guarded",
	api.PhaseBlack:   "black",
	api.PhaseAware:   "aware",
	api.PhaseInstall: "install",
	api.PhaseFlip:    "flip",
}

func isPhase(p api.Phase) bool { return within(api.PhasePlain, api.PhaseFlip, p) }

func isRequest(x api.Request) bool {
	return within(0, api.MaxEpoch, x.Epoch) && isPhase(x.Phase)
}
