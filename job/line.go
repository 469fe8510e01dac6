package job

import (
	"slices"
	"strings"

	"reveille/api"
	"reveille/cron"
	"reveille/label"
)

// The signs of a line.
const (
	behindName = ":"
	behindKey  = "="
	between    = ";"
	blank      = " "
)

// Parse is the job of a line; or what is at fault, and in which part.
func Parse(line string) (api.Job, api.Errno, int) {
	if len(line) > api.MaxLine {
		return api.Job{}, api.ErrLong, 0
	}
	d := draft{Job: bare()}
	parts := strings.Split(line, between)
	for place, part := range parts {
		read := d.setting
		if place == 0 {
			read = d.head
		}
		if !read(part) {
			return api.Job{}, api.ErrJob, place
		}
	}
	if !May(d.Job) {
		return api.Job{}, api.ErrJob, len(parts)
	}
	return d.Job, api.OK, 0
}

// bare is what a job is without any setting.
func bare() api.Job {
	return api.Job{Fail: 100, Deadline: 3600, Misfire: api.MissSkip}
}

// draft is a job of a line, as far as that was read.
type draft struct {
	api.Job
	keys []string // of the settings
}

// head reads a line's first part: the name and the spec.
func (d *draft) head(part string) bool {
	name, spec, ok := strings.Cut(part, behindName)
	d.Name = trim(name)
	return ok && label.Word(d.Name) && readSpec(&d.Job, trim(spec))
}

// setting reads a further part.
func (d *draft) setting(part string) bool {
	key, value, ok := strings.Cut(part, behindKey)
	key = trim(key)
	s, known := settingOf(key)
	if !ok || !known || slices.Contains(d.keys, key) {
		return false
	}
	d.keys = append(d.keys, key)
	return s.read(&d.Job, trim(value))
}

// trim leaves out the blanks at both ends; other white room is no blank here.
func trim(s string) string { return strings.Trim(s, blank) }

func readSpec(j *api.Job, text string) bool {
	s, e, _ := cron.Parse(text)
	j.Spec = s
	return e == api.OK
}

func readSelect(j *api.Job, text string) bool {
	c, e, _ := label.Parse(text)
	j.Select = c
	return e == api.OK
}

// Print is a job's line; nothing, if it may not be.
func Print(j api.Job) string {
	if !May(j) {
		return ""
	}
	line := j.Name + behindName + blank + cron.Print(j.Spec)
	for _, key := range keys {
		s, _ := settingOf(key)
		if value := s.text(j); value != s.text(bare()) {
			line += between + blank + key + behindKey + value
		}
	}
	if len(line) > api.MaxLine {
		return ""
	}
	return line
}
